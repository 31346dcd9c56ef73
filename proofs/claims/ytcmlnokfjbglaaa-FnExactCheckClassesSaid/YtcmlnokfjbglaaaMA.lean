/- What is proved here: small facts on worlds, owned rows and byte rows that the other texts of this seat use; nothing of the program; small facts on rows of the call's own, on texts as cells and on the bytes of a text; nothing of the program; small facts on rows of integers of the call's own; nothing of the program; small facts on slices of integers that can be read, and new rows; nothing of the program; lists of dependencies (pairs of channels) as mathematics: their order, where an element goes into an ascending list, merging, shifting, and their cells; nothing of the program; small facts on new lists of numbers; nothing of the program; lists of dependencies as cells: rows of the call's own and slices that can be read; nothing of the program; small facts on the rows that a law on lists lays and marks, one behind the other in blocks of its own; nothing of the program; lists of dependencies as rows: copies, marks, what is read of them; nothing of the program; small facts on the laws' helpers for lists of dependencies (copy, compare, mark, look for the marks); only the marked row and new blocks are written; the laws' count of a list of dependencies; nothing of the program; the laws' helpers for lists of dependencies: compare, mark, look for the marks, count; only the marked row and new blocks are written; the laws' look for the marks in lists of dependencies; only new blocks are written; a slice of dependencies that came in as an argument can be read; nothing of the program; the contract of a function that builds one new list of numbers and says whether there is one; nothing of the program; what 'append' yields where a whole slice of dependencies is appended onto a row of the call's own, and what the library's copy of such a slice is; nothing of the program; the model's comparison of two dependencies, and what it makes of an ascending list and one dependency: the same list if it is there, else a new list with it at its place; only new blocks are written; what the model's test of a range returns, and small facts on a box; nothing of the program; what the model says of a list of dependencies, of successors, and what its ShiftDepends and MergeDepends return; only new blocks are written; small facts on a list of dependencies of the call's own; nothing of the program; what the model's MergeDepends returns; only new blocks are written; what the library's comparisons of integers return, and the program's comparison of two dependencies; only new blocks are written; what the program says of one dependency's range and of a whole list; only new blocks are written; merging two ascending lists of dependencies by taking the least head each time, as mathematics; nothing of the program; what the program's MergeDepends returns; only new blocks are written; the exact law on MergeDepends answers true, for every argument; only new blocks are written. -/
import Derived.Test.YtcmlnokfjbglaaaRows
import Derived.WalkKit
import Derived.ProofKit
import Derived.OpenShut
import Derived.Below
import Derived.BigQuiet
import Derived.Deep.QuietTactic
import Derived.Deep.Draws
import Derived.Laws.AppendOwn
import Derived.Lib.Hide
import Derived.IntWalk
import Derived.StillTailTactics
import Derived.OwnWalk
import Derived.Laws.IdiomStrings
import Derived.Lib.BufferRead
import Derived.Deep.AppendLies
import Derived.Outline
import Derived.Deep.RegionHeld3
import Derived.Deep.DrawnRows
import Derived.Laws.OwnMore
import Derived.Deep.MidRow
import Derived.Deep.SlicePairs
import Derived.Deep.AppendSrc
import Derived.Laws.StructEq
section
namespace Go.Proofs.Ytcmlnokfjbglaaa
open Go.ChangeShapes Go.WideShapes Go.ChangeAt Go.RowKit
set_option linter.unusedVariables false

theorem ret_int64 {a b : Int} (h : a = b) : Ending.returned (.int .i64 a) = .returned (.int .i64 b) := by rw [h]
theorem ret_bool {a b : Bool} (h : a = b) : Ending.returned (.bool a) = .returned (.bool b) := by rw [h]

/-- No cell is held: for a drawn region that loads nothing. -/
def Tru (w : World) : Prop := w = w
theorem tru (w : World) : Tru w := rfl
/-- A contract that states the world on the left, turned for a still region. -/
theorem still_of {P : Program} {f : FuncId} {args : Array Value} {w : World} {v : Value} (h : Calls P f args w fun e w' => e = .returned v ∧ w = w') : Calls P f args w fun e w' => e = .returned v ∧ w' = w :=
  h.mono fun _ _ ⟨he, hw⟩ => ⟨he, hw.symm⟩

theorem gb_refl (w : World) (row : Option Nat) : w.grownBy w row := ⟨rfl, rfl, rfl, Nat.le_refl _, fun _ _ _ => rfl⟩
theorem gb_trans {a b c : World} {row : Option Nat} (h : a.grownBy b row) (k : b.grownBy c row) : a.grownBy c row :=
  ⟨k.os.trans h.os, k.tape.trans h.tape, k.output.trans h.output, Nat.le_trans h.size k.size, fun i hi hne => (k.block i (Nat.lt_of_lt_of_le hi h.size) hne).trans (h.block i hi hne)⟩
theorem gb_drewN {a w : World} {row : Option Nat} (h : a.grownBy w row) (n : Nat) : a.grownBy (w.drewN n) row := ⟨h.os, h.tape, h.output, h.size, h.block⟩
theorem gb_drew {a w : World} {row : Option Nat} (h : a.grownBy w row) : a.grownBy w.drew row := ⟨h.os, h.tape, h.output, h.size, h.block⟩
theorem gb_alloc {a w : World} {row : Option Nat} (h : a.grownBy w row) (o : Obj) : a.grownBy (w.alloc o) row :=
  ⟨h.os, h.tape, h.output, Nat.le_trans h.size (by simp), fun i hi hne => (Below.heap_alloc w o i (Nat.lt_of_lt_of_le hi h.size)).trans (h.block i hi hne)⟩
theorem gb_setCell {a w : World} {row : Option Nat} (h : a.grownBy w row) {p : Addr} (hp : some p.block = row ∨ a.heap.size ≤ p.block) (u : Value) : a.grownBy (w.setCell p u) row :=
  ⟨h.os, h.tape, h.output, by simpa [World.setCell] using h.size, fun i hi hne => (Below.heap_setCell w p u i (by
    rintro rfl
    rcases hp with hp | hp
    · exact hne hp
    · omega)).trans (h.block i hi hne)⟩
theorem gb_of_below {a w : World} (h : Below a.heap.size a w) (row : Option Nat) : a.grownBy w row := ⟨h.os, h.tape, h.output, h.size, fun i hi _ => h.block i hi⟩
theorem gb_below {B : Nat} {w w' : World} {g : Nat} (h : w.grownBy w' (some g)) (hB : B ≤ w.heap.size) (hg : B ≤ g) : Below B w w' :=
  ⟨h.os, h.tape, h.output, h.size, fun i hi => h.block i (by omega) (fun e => by cases e; omega)⟩
theorem gb_below_none {B : Nat} {w w' : World} (h : w.grownBy w' none) (hB : B ≤ w.heap.size) : Below B w w' :=
  ⟨h.os, h.tape, h.output, h.size, fun i hi => h.block i (by omega) (fun e => by cases e)⟩
theorem below_drewN {B : Nat} {a w : World} (h : Below B a w) (n : Nat) : Below B a (w.drewN n) := ⟨h.os, h.tape, h.output, h.size, h.block⟩

/-- A block of cells that the call may write, known whole. -/
def Blk (w : World) (g : Nat) (t : TypeId) (cs : Array Value) : Prop := w.heap[g]? = some (.cells cs t (0, 0))
section
variable {w w' : World} {g : Nat} {t : TypeId} {cs : Array Value}
theorem Blk.lt (h : Blk w g t cs) : g < w.heap.size := by
  rcases Nat.lt_or_ge g w.heap.size with hlt | hge
  · exact hlt
  · unfold Blk at h; rw [Array.getElem?_eq_none hge] at h; cases h
theorem Blk.cell (h : Blk w g t cs) (i : Nat) : w.cell? ⟨g, i, none⟩ = cs[i]? := cell_of_row w g i cs t (0, 0) h
theorem Blk.frozen (h : Blk w g t cs) (i : Nat) : w.frozen? ⟨g, i, none⟩ = false := by
  unfold Blk at h
  simp [World.frozen?, h]
theorem Blk.new (w : World) (t : TypeId) (cs : Array Value) : Blk (w.alloc (.cells cs t)) w.heap.size t cs := heap_alloc_new w _
theorem Blk.drewN (h : Blk w g t cs) (n : Nat) : Blk (w.drewN n) g t cs := h
theorem Blk.alloc (h : Blk w g t cs) (o : Obj) : Blk (w.alloc o) g t cs := (Below.heap_alloc w o g h.lt).trans h
theorem Blk.set_ (h : Blk w g t cs) (i : Nat) (u : Value) : Blk (w.setCell ⟨g, i, none⟩ u) g t (cs.setIfInBounds i u) := by
  unfold Blk at h ⊢
  simp [World.setCell, Array.getElem?_modify, h]
theorem Blk.far (h : Blk w g t cs) {p : Addr} (hp : g ≠ p.block) (u : Value) : Blk (w.setCell p u) g t cs := (Below.heap_setCell w p u g hp).trans h
theorem Blk.grown {row : Option Nat} (h : Blk w g t cs) (hb : w.grownBy w' row) (hg : some g ≠ row) : Blk w' g t cs := (hb.block g h.lt hg).trans h
theorem Blk.below {B : Nat} (h : Blk w g t cs) (hb : Below B w w') (hg : g < B) : Blk w' g t cs := (hb.block g hg).trans h
theorem own_ne {base : Nat} {e : TypeId} {size n : Nat} {v : Value} {xs : List Value} (h : w.ownsRow base e size v n xs) (hg : Blk w g t cs) (hne : e ≠ t) : v.ownBlock ≠ some g := by
  rcases h.2 with ⟨rfl, _⟩ | ⟨g', cap, cur, rfl, _, hh, _⟩
  · simp [Value.ownBlock]
  · intro he
    have : g' = g := by simpa [Value.ownBlock] using he
    subst this
    unfold Blk at hg
    rw [hg] at hh
    injection hh with hh
    injection hh with _ ht
    exact hne ht.symm
end

/-- A slice of bytes that came in: its first n cells are bytes, in a block below B. -/
def ByteRow (w : World) (B : Nat) (A : Option Addr) (n : Nat) : Prop :=
  0 < n → ∃ b off, A = some ⟨b, off, none⟩ ∧ b < B ∧ ∀ k, k < n → ∃ v : Int, 0 ≤ v ∧ v ≤ 255 ∧ w.cell? ⟨b, off + k, none⟩ = some (.int .u8 v)
theorem ByteRow.keep {w w' : World} {B n : Nat} {A : Option Addr} (h : ByteRow w B A n) (hk : ∀ p : Addr, p.block < B → w'.cell? p = w.cell? p) : ByteRow w' B A n := fun hn => by
  obtain ⟨b, off, hA, hb, hc⟩ := h hn
  refine ⟨b, off, hA, hb, fun k hkn => ?_⟩
  obtain ⟨v, h0, h1, hv⟩ := hc k hkn
  exact ⟨v, h0, h1, (hk _ hb).trans hv⟩
theorem ByteRow.more {w : World} {B B' n : Nat} {A : Option Addr} (h : ByteRow w B A n) (hB : B ≤ B') : ByteRow w B' A n := fun hn => by
  obtain ⟨b, off, hA, hb, hc⟩ := h hn
  exact ⟨b, off, hA, by omega, hc⟩

theorem byteRow_of {w : World} {n : Nat} (x : Addr) (zs : List Int) (hl : n ≤ zs.length) (hcell : ∀ i, i < zs.length → w.cell? (x.add i) = some (.int .u8 (zs.getD i 0))) (hwz : ∀ z ∈ zs, (Lit.int .u8 z).wf = true) :
    ByteRow w w.heap.size (some x) n := fun hn => by
  obtain ⟨b, off, spot⟩ := x
  have hc := hcell 0 (by omega)
  have hspot : spot = none := by simpa [Addr.add] using World.cell?_spot hc
  subst hspot
  have hlt : b < w.heap.size := by simpa [Addr.add] using World.block_lt_of_cell? _ _ hc
  refine ⟨b, off, rfl, hlt, fun k hk => ?_⟩
  have hk' : k < zs.length := by omega
  have hb := bounds_u8 (hwz (zs.getD k 0) (by simp [List.getD, List.getElem?_eq_getElem hk']))
  exact ⟨zs.getD k 0, hb.1, hb.2, by simpa [Addr.add_lit] using hcell k hk'⟩

theorem band_u (x : Int) (m : Nat) (hm : m ≤ 2147483647) : 0 ≤ bits .and .i64 x (m : Int) ∧ bits .and .i64 x (m : Int) ≤ m := by
  have h : ((BitVec.ofInt IntKind.i64.bits x) &&& (BitVec.ofInt IntKind.i64.bits (m : Int))).toNat ≤ m := by
    rw [BitVec.toNat_and]
    refine Nat.le_trans Nat.and_le_right ?_
    simp [IntKind.bits]
    omega
  have e : bits .and .i64 x (m : Int) = (((BitVec.ofInt IntKind.i64.bits x) &&& (BitVec.ofInt IntKind.i64.bits (m : Int))).toNat : Int) := by
    show IntKind.i64.wrap (((BitVec.ofInt IntKind.i64.bits x) &&& (BitVec.ofInt IntKind.i64.bits (m : Int))).toNat : Int) = _
    exact IntWalk.i64_in _ (by omega)
  rw [e]
  omega

/-- Bytes as the cells of a row. -/
def bytesV (l : List UInt8) : List Value := l.map fun c => Value.int .u8 (c.toNat : Int)
theorem bytesV_append (a b : List UInt8) : bytesV (a ++ b) = bytesV a ++ bytesV b := by simp [bytesV]
theorem bytesV_length (a : List UInt8) : (bytesV a).length = a.length := by simp [bytesV]

theorem take_snoc (s : ByteArray) (k : Nat) (h : k < s.size) : s.data.toList.take (k + 1) = s.data.toList.take k ++ [s[k]] := by
  rw [List.take_succ_eq_append_getElem (by simpa using h)]; rfl

end Go.Proofs.Ytcmlnokfjbglaaa
end

section
namespace Go.Proofs.Ytcmlnokfjbglaaa
open Go.ChangeShapes Go.WideShapes Go.ChangeAt Go.RowKit
set_option linter.unusedVariables false

theorem own_form {w : World} {base : Nat} {e : TypeId} {size n : Nat} {v : Value} {xs : List Value} (h : w.ownsRow base e size v n xs) :
    ∃ A cap, v = .slice A n cap ∧ (0 < n → ∃ g, A = some ⟨g, 0, none⟩) := by
  rcases h.2 with ⟨rfl, rfl⟩ | ⟨g, cap, cur, rfl, _⟩
  · exact ⟨none, 0, rfl, fun h => absurd h (by omega)⟩
  · exact ⟨_, cap, rfl, fun _ => ⟨g, rfl⟩⟩
theorem own_le {w : World} {base : Nat} {e : TypeId} {size n : Nat} {v : Value} {xs : List Value} (h : w.ownsRow base e size v n xs) : n ≤ maxLen := by
  rcases h.2 with ⟨rfl, rfl⟩ | ⟨g, cap, cur, rfl, _, _, h1, h2, _⟩
  · exact Nat.zero_le _
  · exact Nat.le_trans h1 h2
theorem own_drewN {w : World} {base : Nat} {e : TypeId} {size n : Nat} {v : Value} {xs : List Value} (h : w.ownsRow base e size v n xs) (m : Nat) : (w.drewN m).ownsRow base e size v n xs := h

def strsV (l : List ByteArray) : List Value := l.map Value.string
theorem strsV_append (a b : List ByteArray) : strsV (a ++ b) = strsV a ++ strsV b := by simp [strsV]
def byteOf (s : ByteArray) (i : Nat) : Nat := (s.data.toList.getD i 0).toNat
theorem byteOf_lt (s : ByteArray) (i : Nat) : byteOf s i < 256 := (s.data.toList.getD i 0).toNat_lt
theorem byteOf_get (s : ByteArray) (i : Nat) (h : i < s.size) : s[i].toNat = byteOf s i := by
  unfold byteOf
  rw [List.getD_eq_getElem?_getD, List.getElem?_eq_getElem (by simpa using h)]; rfl
def RetS (s : ByteArray) (w : World) (e : Ending) (w' : World) : Prop := e = .returned (.string s) ∧ w.grownBy w' none

def RetB (b : Bool) (w : World) (e : Ending) (w' : World) : Prop := e = .returned (.bool b) ∧ w.grownBy w' none
def RetI (k : Int) (row : Option Nat) (w : World) (e : Ending) (w' : World) : Prop := e = .returned (.int .i64 k) ∧ w.grownBy w' row

theorem gb_of_none {a b : World} (h : a.grownBy b none) (row : Option Nat) : a.grownBy b row := ⟨h.os, h.tape, h.output, h.size, fun i hi _ => h.block i hi (by simp)⟩
theorem strs_cell {w : World} {base : Nat} {n g cap : Nat} {l : List ByteArray} (h : w.ownsRow base 9 1 (.slice (some ⟨g, 0, none⟩) n cap) n (strsV l)) (k : Nat) (hk : k < n) (hl : l.length = n) :
    w.cell? ⟨g, k, none⟩ = some (.string l[k]) := by
  rw [h.cellAt k (by omega)]
  simp [strsV]

/-- A row of the call's own stays over a call that writes new blocks alone. -/
theorem own_below {w w' : World} {base : Nat} {e : TypeId} {size n : Nat} {v : Value} {xs : List Value} (h : w.ownsRow base e size v n xs) (hb : Below w.heap.size w w') : w'.ownsRow base e size v n xs :=
  h.kept (gb_of_below hb none) (by cases hv : v.ownBlock <;> simp)
theorem own_none {w w' : World} {base : Nat} {e : TypeId} {size n : Nat} {v : Value} {xs : List Value} (h : w.ownsRow base e size v n xs) (hb : w.grownBy w' none) : w'.ownsRow base e size v n xs :=
  h.kept hb (by cases hv : v.ownBlock <;> simp)
theorem own_apart {w w' : World} {b1 b2 : Nat} {e1 e2 : TypeId} {s1 s2 n1 n2 : Nat} {v1 v2 : Value} {x1 x2 : List Value} (h1 : w.ownsRow b1 e1 s1 v1 n1 x1) (hlt : ∀ k, v1.ownBlock = some k → k < b2) (h2 : w.ownsRow b2 e2 s2 v2 n2 x2) (hg : w.grownBy w' v2.ownBlock) : w'.ownsRow b1 e1 s1 v1 n1 x1 :=
  h1.kept hg (by
    cases hv : v1.ownBlock with
    | none => exact .inl rfl
    | some k => exact .inr (fun e => by have := hlt k hv; have := (h2.lt k e.symm).1; omega))
theorem info_str : (Try.prog.info? 9).map (fun i => (i.zero, i.size, i.bytes)) = some (some (.string ⟨#[]⟩), 1, 16) := by kernel_rfl

end Go.Proofs.Ytcmlnokfjbglaaa
end

section
namespace Go.Proofs.Ytcmlnokfjbglaaa
open Go.ChangeShapes Go.WideShapes Go.ChangeAt Go.RowKit
set_option linter.unusedVariables false

def intsV (l : List Int) : List Value := l.map fun x => Value.int .i64 x
theorem intsV_append (a b : List Int) : intsV (a ++ b) = intsV a ++ intsV b := by simp [intsV]
theorem intsV_length (a : List Int) : (intsV a).length = a.length := by simp [intsV]
theorem info_int : (Try.prog.info? 3).map (fun i => (i.zero, i.size, i.bytes)) = some (some (.int .i64 0), 1, 8) := by kernel_rfl
theorem ints_cell {w : World} {base n g cap : Nat} {l : List Int} (h : w.ownsRow base 3 1 (.slice (some ⟨g, 0, none⟩) n cap) n (intsV l)) (k : Nat) (x : Int) (hk : l[k]? = some x) (hl : l.length = n) :
    w.cell? ⟨g, k, none⟩ = some (.int .i64 x) := by
  have hlt : k < n := by
    rcases Nat.lt_or_ge k n with h1 | h1
    · exact h1
    · rw [List.getElem?_eq_none (by omega)] at hk; cases hk
  rw [h.cellAt k (by omega)]
  simp [intsV, hk]
end Go.Proofs.Ytcmlnokfjbglaaa
end

section
namespace Go.Proofs.Ytcmlnokfjbglaaa
open Go.ChangeShapes Go.WideShapes Go.ChangeAt Go.RowKit
set_option linter.unusedVariables false

/-- The slice's n elements are the numbers of L, in a block below B. -/
def IntAt (w : World) (B : Nat) (A : Option Addr) (n : Nat) (L : List Int) : Prop :=
  L.length = n ∧ (0 < n → ∃ b off, A = some ⟨b, off, none⟩ ∧ b < B ∧ ∀ (k : Nat) (x : Int), L[k]? = some x → w.cell? ⟨b, off + k, none⟩ = some (.int .i64 x))
section
variable {w w' : World} {B B' n : Nat} {A : Option Addr} {L : List Int}
theorem IntAt.keep (h : IntAt w B A n L) (hk : ∀ p : Addr, p.block < B → w'.cell? p = w.cell? p) : IntAt w' B A n L := ⟨h.1, fun hn => by
  obtain ⟨b, off, hA, hb, hc⟩ := h.2 hn
  exact ⟨b, off, hA, hb, fun k x hx => (hk _ hb).trans (hc k x hx)⟩⟩
theorem IntAt.more (h : IntAt w B A n L) (hB : B ≤ B') : IntAt w B' A n L := ⟨h.1, fun hn => by
  obtain ⟨b, off, hA, hb, hc⟩ := h.2 hn
  exact ⟨b, off, hA, by omega, hc⟩⟩
theorem IntAt.grown {row : Option Nat} (h : IntAt w B A n L) (hB : B ≤ w.heap.size) (hg : w.grownBy w' row) (hr : ∀ k, row = some k → B ≤ k) : IntAt w' B A n L :=
  h.keep fun p hp => World.cell?_of_block (hg.block p.block (by omega) (fun e => by have := hr _ e.symm; omega))
theorem IntAt.none (h : IntAt w B A n L) (hB : B ≤ w.heap.size) (hg : w.grownBy w' none) : IntAt w' B A n L := h.grown hB hg (fun k e => by cases e)
theorem IntAt.below (h : IntAt w B A n L) (hb : Below B w w') : IntAt w' B A n L := h.keep fun p hp => World.cell?_of_block (hb.block p.block hp)
theorem IntAt.nil (w : World) (B : Nat) (A : Option Addr) : IntAt w B A 0 [] := ⟨rfl, fun h => by omega⟩
/-- One element. -/
theorem IntAt.at (h : IntAt w B A n L) (k : Nat) (hk : k < n) : ∃ b off, A = some ⟨b, off, Option.none⟩ ∧ b < B ∧ w.cell? ⟨b, off + k, Option.none⟩ = some (.int .i64 (L.getD k 0)) := by
  obtain ⟨b, off, hA, hb, hc⟩ := h.2 (by omega)
  have hl := h.1
  exact ⟨b, off, hA, hb, hc k _ (by rw [List.getD_eq_getElem?_getD, List.getElem?_eq_getElem (by omega)]; rfl)⟩
end
theorem alloc_size (w : World) (o : Obj) : (w.alloc o).heap.size = w.heap.size + 1 := by simp
theorem own_less {w : World} {b1 b2 : Nat} {e : TypeId} {size n : Nat} {v : Value} {xs : List Value} (h : w.ownsRow b2 e size v n xs) (hb : b1 ≤ b2) : w.ownsRow b1 e size v n xs :=
  ⟨h.1, h.2.imp id fun ⟨g, cap, cur, e1, e2, rest⟩ => ⟨g, cap, cur, e1, Nat.le_trans hb e2, rest⟩⟩

/-- A row of the call's own, read. -/
theorem intAt_own {w : World} {base n B cap : Nat} {A : Option Addr} {L : List Int} (h : w.ownsRow base 3 1 (.slice A n cap) n (intsV L)) (hl : L.length = n) (hB : w.heap.size ≤ B) : IntAt w B A n L :=
  ⟨hl, fun hn => by
    obtain ⟨A', cap', hv, ha⟩ := own_form h
    obtain ⟨g, hg⟩ := ha hn
    obtain ⟨rfl, rfl⟩ : A = A' ∧ cap = cap' := by injection hv with h1 h2 h3; exact ⟨h1, h3⟩
    subst hg
    exact ⟨g, 0, rfl, by have := (h.lt g rfl).2; omega, fun k x hx => by rw [Nat.zero_add]; exact ints_cell h k x hx hl⟩⟩
theorem own_ints_length {w : World} {base n : Nat} {v : Value} {L : List Int} (h : w.ownsRow base 3 1 v n (intsV L)) : L.length = n := by
  have := h.1
  rw [intsV_length] at this
  omega
theorem intsV_set (l : List Int) (j : Nat) (x : Int) : (intsV l).set j (.int .i64 x) = intsV (l.set j x) := by simp [intsV, List.map_set]
theorem madeInts (n : Nat) : (madeCells (Value.int .i64 0).cells n).toList = intsV (List.replicate n 0) := by
  show (madeCells #[Value.int .i64 0] n).toList = _
  rw [toList_madeCells_one]
  simp [intsV]

end Go.Proofs.Ytcmlnokfjbglaaa
end

section
namespace Go.Proofs.Ytcmlnokfjbglaaa
open Go.ChangeShapes Go.WideShapes Go.ChangeAt Go.RowKit
set_option linter.unusedVariables false

abbrev Dep := Int × Int
def ltD (a b : Dep) : Bool := decide (a.1 < b.1 ∨ a.1 = b.1 ∧ a.2 < b.2)
theorem ltD_iff {a b : Dep} : ltD a b = true ↔ (a.1 < b.1 ∨ a.1 = b.1 ∧ a.2 < b.2) := by unfold ltD; exact decide_eq_true_iff
theorem ltD_no {a b : Dep} : ltD a b = false ↔ ¬ (a.1 < b.1 ∨ a.1 = b.1 ∧ a.2 < b.2) := by unfold ltD; exact decide_eq_false_iff_not
theorem ltD_irrefl (a : Dep) : ltD a a = false := ltD_no.2 (by omega)
theorem ltD_trans {a b c : Dep} (h : ltD a b = true) (k : ltD b c = true) : ltD a c = true := by
  rw [ltD_iff] at *; omega
theorem ltD_asymm {a b : Dep} (h : ltD a b = true) : ltD b a = false := by
  rw [ltD_iff] at h; rw [ltD_no]; omega
theorem ltD_tri {a b : Dep} (h : ltD a b = false) (k : a ≠ b) : ltD b a = true := by
  rw [ltD_no] at h; rw [ltD_iff]
  have : ¬ (a.1 = b.1 ∧ a.2 = b.2) := fun e => k (Prod.ext e.1 e.2)
  omega
/-- The comparison as a number. -/
def cmpI (x y : Int) : Int := if x < y then -1 else if y < x then 1 else 0
def cmpD (a b : Dep) : Int := if cmpI a.1 b.1 ≠ 0 then cmpI a.1 b.1 else cmpI a.2 b.2
theorem cmpI_zero {x y : Int} : cmpI x y = 0 ↔ x = y := by unfold cmpI; split <;> (try split) <;> omega
theorem cmpI_neg {x y : Int} : cmpI x y < 0 ↔ x < y := by unfold cmpI; split <;> (try split) <;> omega
theorem cmpD_neg {a b : Dep} : cmpD a b < 0 ↔ ltD a b = true := by
  rw [ltD_iff]
  unfold cmpD cmpI
  repeat' split
  all_goals omega
theorem cmpD_zero {a b : Dep} : cmpD a b = 0 ↔ a = b := by
  rw [Prod.ext_iff]
  unfold cmpD cmpI
  repeat' split
  all_goals omega
theorem cmpD_range (a b : Dep) : -1 ≤ cmpD a b ∧ cmpD a b ≤ 1 := by
  unfold cmpD cmpI
  repeat' split
  all_goals omega

def ascD (D : List Dep) : Prop := D.Pairwise (fun a b => ltD a b = true)
instance (D : List Dep) : Decidable (ascD D) := inferInstanceAs (Decidable (List.Pairwise _ _))
def atD (D : List Dep) (k : Nat) : Dep := D.getD k (0, 0)
theorem atD_get {D : List Dep} {k : Nat} (h : k < D.length) : atD D k = D[k] := by
  rw [atD, List.getD_eq_getElem?_getD, List.getElem?_eq_getElem h]; rfl
theorem atD_mem {D : List Dep} {k : Nat} (h : k < D.length) : atD D k ∈ D := by rw [atD_get h]; exact List.getElem_mem h
theorem atD_ex {D : List Dep} {d : Dep} (h : d ∈ D) : ∃ k, k < D.length ∧ atD D k = d := by
  obtain ⟨k, hk, e⟩ := List.getElem_of_mem h
  exact ⟨k, hk, by rw [atD_get hk, e]⟩
theorem asc_at {D : List Dep} (h : ascD D) {i j : Nat} (hij : i < j) (hj : j < D.length) : ltD (atD D i) (atD D j) = true := by
  rw [atD_get (by omega), atD_get hj]
  exact (List.pairwise_iff_getElem.1 h) i j (by omega) hj hij
theorem asc_of {D : List Dep} (h : ∀ i, i + 1 < D.length → ltD (atD D i) (atD D (i + 1)) = true) : ascD D := by
  rw [ascD, List.pairwise_iff_getElem]
  intro i j hi hj hij
  have key : ∀ t, i + t + 1 < D.length → ltD (atD D i) (atD D (i + t + 1)) = true := by
    intro t
    induction t with
    | zero => exact h i
    | succ t ih => exact fun ht => ltD_trans (ih (by omega)) (h (i + t + 1) ht)
  have := key (j - i - 1) (by omega)
  rw [show i + (j - i - 1) + 1 = j by omega, atD_get hi, atD_get hj] at this
  exact this
/-- Strictly ascending lists with the same elements are the same. -/
theorem asc_ext : ∀ (A B : List Dep), ascD A → ascD B → (∀ x, x ∈ A ↔ x ∈ B) → A = B
  | [], [], _, _, _ => rfl
  | [], b :: B, _, _, h => by have := (h b).2 (List.mem_cons_self ..); cases this
  | a :: A, [], _, _, h => by have := (h a).1 (List.mem_cons_self ..); cases this
  | a :: A, b :: B, hA, hB, h => by
    obtain ⟨ha, hA'⟩ := List.pairwise_cons.1 hA
    obtain ⟨hb, hB'⟩ := List.pairwise_cons.1 hB
    have e : a = b := by
      rcases List.mem_cons.1 ((h a).1 (List.mem_cons_self ..)) with e | h1
      · exact e
      · rcases List.mem_cons.1 ((h b).2 (List.mem_cons_self ..)) with e | h2
        · exact e.symm
        · have h3 := hb a h1; have h4 := ltD_asymm (ha b h2); rw [h4] at h3; cases h3
    subst e
    rw [asc_ext A B hA' hB' (fun x => ⟨fun hx => by
      rcases List.mem_cons.1 ((h x).1 (List.mem_cons_of_mem _ hx)) with e | h1
      · have := ha x hx; rw [e, ltD_irrefl] at this; cases this
      · exact h1, fun hx => by
      rcases List.mem_cons.1 ((h x).2 (List.mem_cons_of_mem _ hx)) with e | h1
      · have := hb x hx; rw [e, ltD_irrefl] at this; cases this
      · exact h1⟩)]

/-- How many elements at the head come before d. -/
def lowN (D : List Dep) (d : Dep) : Nat := (D.takeWhile (fun x => ltD x d)).length
theorem lowN_le (D : List Dep) (d : Dep) : lowN D d ≤ D.length := by
  unfold lowN
  exact (List.takeWhile_prefix _).length_le
theorem lowN_of : ∀ {D : List Dep} {d : Dep} {i : Nat}, i ≤ D.length → (∀ t, t < i → ltD (atD D t) d = true) → (i < D.length → ltD (atD D i) d = false) → lowN D d = i
  | [], d, i, hi, _, _ => by simp at hi; subst hi; rfl
  | a :: D, d, 0, hi, h1, h2 => by
    have := h2 (by simp)
    have : ltD a d = false := this
    simp [lowN, this]
  | a :: D, d, i + 1, hi, h1, h2 => by
    have h0 : ltD a d = true := h1 0 (by omega)
    have ih := lowN_of (D := D) (d := d) (i := i) (by simpa using hi) (fun t ht => h1 (t + 1) (by omega)) (fun hlt => h2 (by simpa using hlt))
    unfold lowN at ih ⊢
    simp [h0, ih]
theorem lowN_yes : ∀ {D : List Dep} {d : Dep} {t : Nat}, t < lowN D d → ltD (atD D t) d = true
  | [], d, t, h => by simp [lowN] at h
  | a :: D, d, t, h => by
    unfold lowN at h
    cases ha : ltD a d with
    | false => simp [ha] at h
    | true =>
      simp [ha] at h
      cases t with
      | zero => exact ha
      | succ t => exact lowN_yes (D := D) (d := d) (t := t) (by unfold lowN; omega)
theorem lowN_no : ∀ {D : List Dep} {d : Dep}, lowN D d < D.length → ltD (atD D (lowN D d)) d = false
  | [], d, h => by simp at h
  | a :: D, d, h => by
    cases ha : ltD a d with
    | false =>
      have e : lowN (a :: D) d = 0 := by simp [lowN, ha]
      rw [e]; exact ha
    | true =>
      have e : lowN (a :: D) d = lowN D d + 1 := by simp [lowN, ha]
      rw [e] at h ⊢
      exact lowN_no (D := D) (d := d) (by simpa using h)
theorem lowN_rest {D : List Dep} (hD : ascD D) {d : Dep} {t : Nat} (h : lowN D d ≤ t) (ht : t < D.length) : ltD (atD D t) d = false := by
  have h0 := lowN_no (D := D) (d := d) (by omega)
  by_cases e : lowN D d = t
  · rw [← e]; exact h0
  · have h1 := asc_at hD (show lowN D d < t by omega) ht
    cases h2 : ltD (atD D t) d with
    | false => rfl
    | true => rw [ltD_trans h1 h2] at h0; cases h0

/-- The list with d at its place, unless it is there. -/
def putD (D : List Dep) (d : Dep) : List Dep := D.take (lowN D d) ++ d :: D.drop (lowN D d)
def insD (D : List Dep) (d : Dep) : List Dep := if d ∈ D then D else putD D d
theorem ins_there {D : List Dep} {d : Dep} (h : d ∈ D) : insD D d = D := if_pos h
theorem ins_new {D : List Dep} {d : Dep} (h : d ∉ D) : insD D d = putD D d := if_neg h
/-- In an ascending list, d can stand at its place alone. -/
theorem there_iff {D : List Dep} (hD : ascD D) {d : Dep} : d ∈ D ↔ lowN D d < D.length ∧ atD D (lowN D d) = d := by
  constructor
  · intro h
    obtain ⟨k, hk, e⟩ := atD_ex h
    have h1 : ¬ k < lowN D d := fun h1 => by have := lowN_yes h1; rw [e, ltD_irrefl] at this; cases this
    have h2 : lowN D d = k := by
      rcases Nat.lt_or_eq_of_le (Nat.le_of_not_lt h1) with h2 | h2
      · have h3 := asc_at hD h2 hk
        rw [e] at h3
        have h4 := lowN_no (D := D) (d := d) (by omega)
        rw [h3] at h4; cases h4
      · exact h2
    rw [h2]; exact ⟨hk, e⟩
  · rintro ⟨h, e⟩
    rw [← e]; exact atD_mem h
theorem mem_put {D : List Dep} {d x : Dep} : x ∈ putD D d ↔ x = d ∨ x ∈ D := by
  unfold putD
  rw [List.mem_append, List.mem_cons]
  have : x ∈ D ↔ x ∈ D.take (lowN D d) ∨ x ∈ D.drop (lowN D d) := by rw [← List.mem_append, List.take_append_drop]
  rw [this]
  constructor
  · rintro (h | h | h)
    · exact .inr (.inl h)
    · exact .inl h
    · exact .inr (.inr h)
  · rintro (h | h | h)
    · exact .inr (.inl h)
    · exact .inl h
    · exact .inr (.inr h)
theorem mem_ins {D : List Dep} {d x : Dep} : x ∈ insD D d ↔ x = d ∨ x ∈ D := by
  unfold insD
  split
  · rename_i h
    exact ⟨.inr, fun e => e.elim (fun e => e ▸ h) id⟩
  · exact mem_put
theorem put_length (D : List Dep) (d : Dep) : (putD D d).length = D.length + 1 := by
  have := lowN_le D d
  simp [putD]; omega
theorem ins_length (D : List Dep) (d : Dep) : (insD D d).length ≤ D.length + 1 ∧ D.length ≤ (insD D d).length := by
  unfold insD
  split
  · omega
  · rw [put_length]; omega
theorem ins_asc {D : List Dep} (hD : ascD D) (d : Dep) : ascD (insD D d) := by
  unfold insD
  split
  · exact hD
  · rename_i hn
    have key : ∀ x ∈ D.drop (lowN D d), ltD d x = true := fun x hx => by
      obtain ⟨k, hk, e⟩ := List.getElem_of_mem hx
      have hk' : lowN D d + k < D.length := by simp at hk; omega
      have e' : atD D (lowN D d + k) = x := by rw [atD_get hk', ← e, List.getElem_drop]
      have := lowN_rest hD (d := d) (t := lowN D d + k) (by omega) hk'
      rw [e'] at this
      exact ltD_tri this (fun e2 => hn (by rw [← e2]; exact List.mem_of_mem_drop hx))
    refine List.pairwise_append.2 ⟨hD.sublist (List.take_sublist _ _), List.pairwise_cons.2 ⟨key, hD.sublist (List.drop_sublist _ _)⟩, ?_⟩
    intro a ha b hb
    have had : ltD a d = true := by
      obtain ⟨k, hk, e⟩ := List.getElem_of_mem ha
      have hk' : k < lowN D d := by simp at hk; omega
      have hl := lowN_le D d
      have e' : atD D k = a := by rw [atD_get (by omega), ← e, List.getElem_take]
      have := lowN_yes hk'
      rw [e'] at this; exact this
    rcases List.mem_cons.1 hb with rfl | hb
    · exact had
    · exact ltD_trans had (key b hb)
/-- What a list becomes by inserting others. -/
def insAll (D E : List Dep) : List Dep := E.foldl insD D
theorem insAll_asc {D : List Dep} (hD : ascD D) (E : List Dep) : ascD (insAll D E) := by
  induction E generalizing D with
  | nil => exact hD
  | cons e E ih => exact ih (ins_asc hD e)
theorem mem_insAll {D E : List Dep} {x : Dep} : x ∈ insAll D E ↔ x ∈ D ∨ x ∈ E := by
  induction E generalizing D with
  | nil => simp [insAll]
  | cons e E ih =>
    rw [insAll, List.foldl_cons]
    have := ih (D := insD D e)
    rw [insAll] at this
    rw [this, mem_ins, List.mem_cons]
    constructor
    · rintro ((h | h) | h)
      · exact .inr (.inl h)
      · exact .inl h
      · exact .inr (.inr h)
    · rintro (h | h | h)
      · exact .inl (.inr h)
      · exact .inl (.inl h)
      · exact .inr h
theorem insAll_length (D E : List Dep) : (insAll D E).length ≤ D.length + E.length ∧ D.length ≤ (insAll D E).length := by
  induction E generalizing D with
  | nil => simp [insAll]
  | cons e E ih =>
    have h1 := ih (D := insD D e)
    have h2 := ins_length D e
    rw [insAll] at h1
    rw [insAll, List.foldl_cons, List.length_cons]
    omega
theorem insAll_take {D E : List Dep} {k : Nat} (h : k < E.length) : insAll D (E.take (k + 1)) = insD (insAll D (E.take k)) (atD E k) := by
  rw [atD_get h, List.take_succ_eq_append_getElem h, insAll, List.foldl_append]
  rfl
theorem insAll_append (D E F : List Dep) : insAll D (E ++ F) = insAll (insAll D E) F := List.foldl_append
theorem asc_nil : ascD [] := List.Pairwise.nil

/-- Valid lists, merging, successors, shifting. -/
def inD (d : Dep) : Bool := decide (0 ≤ d.1 ∧ d.1 ≤ 127 ∧ 0 ≤ d.2 ∧ d.2 ≤ 127)
theorem inD_iff {d : Dep} : inD d = true ↔ 0 ≤ d.1 ∧ d.1 ≤ 127 ∧ 0 ≤ d.2 ∧ d.2 ≤ 127 := by unfold inD; exact decide_eq_true_iff
theorem inD_no {d : Dep} : inD d = false ↔ ¬ (0 ≤ d.1 ∧ d.1 ≤ 127 ∧ 0 ≤ d.2 ∧ d.2 ≤ 127) := by unfold inD; exact decide_eq_false_iff_not
/-- The element k is in the range and above the one ahead of it. -/
def stepD (D : List Dep) (k : Nat) : Bool := inD (atD D k) && (decide (k = 0) || ltD (atD D (k - 1)) (atD D k))
def okD (D : List Dep) : Bool := (List.range D.length).all (stepD D)
theorem okD_iff {D : List Dep} : okD D = true ↔ ∀ k, k < D.length → stepD D k = true := by
  unfold okD
  rw [List.all_eq_true]
  exact ⟨fun h k hk => h k (List.mem_range.2 hk), fun h k hk => h k (List.mem_range.1 hk)⟩
theorem okD_not {D : List Dep} {k : Nat} (hk : k < D.length) (h : stepD D k = false) : okD D = false := by
  cases ho : okD D with
  | false => rfl
  | true => rw [okD_iff.1 ho k hk] at h; cases h
theorem okD_asc {D : List Dep} (h : okD D = true) : ascD D := asc_of fun i hi => by
  have := okD_iff.1 h (i + 1) hi
  simp [stepD] at this
  exact this.2
theorem okD_in {D : List Dep} (h : okD D = true) {d : Dep} (hd : d ∈ D) : inD d = true := by
  obtain ⟨k, hk, rfl⟩ := atD_ex hd
  have := okD_iff.1 h k hk
  simp [stepD] at this
  exact this.1
theorem okD_of {D : List Dep} (h : ascD D) (k : ∀ d ∈ D, inD d = true) : okD D = true := okD_iff.2 fun i hi => by
  rw [stepD, k _ (atD_mem hi), Bool.true_and]
  cases i with
  | zero => rfl
  | succ i => rw [show i + 1 - 1 = i from rfl, asc_at h (Nat.lt_succ_self i) hi]; simp
def mergeD (A B : List Dep) : List Dep := if okD A && okD B then insAll A B else []
theorem merge_yes {A B : List Dep} (ha : okD A = true) (hb : okD B = true) : mergeD A B = insAll A B := by simp [mergeD, ha, hb]
theorem merge_no1 {A B : List Dep} (ha : okD A = false) : mergeD A B = [] := by simp [mergeD, ha]
theorem merge_no2 {A B : List Dep} (hb : okD B = false) : mergeD A B = [] := by simp [mergeD, hb]
theorem merge_length (A B : List Dep) : (mergeD A B).length ≤ A.length + B.length := by
  unfold mergeD
  split
  · exact (insAll_length A B).1
  · simp
def succD (D : List Dep) (c : Int) : List Int := (D.filter fun d => decide (d.1 = c)).map (·.2)
theorem succ_length (D : List Dep) (c : Int) : (succD D c).length ≤ D.length := by
  unfold succD
  rw [List.length_map]
  exact List.length_filter_le _ _
theorem succ_yes {D : List Dep} {c : Int} {k : Nat} (hk : k < D.length) (h : (atD D k).1 = c) : succD (D.take (k + 1)) c = succD (D.take k) c ++ [(atD D k).2] := by
  rw [atD_get hk] at h ⊢
  rw [List.take_succ_eq_append_getElem hk, succD, succD, List.filter_append, List.map_append]
  simp [h]
theorem succ_no {D : List Dep} {c : Int} {k : Nat} (hk : k < D.length) (h : ¬ (atD D k).1 = c) : succD (D.take (k + 1)) c = succD (D.take k) c := by
  rw [atD_get hk] at h
  rw [List.take_succ_eq_append_getElem hk, succD, succD, List.filter_append, List.map_append]
  simp [h]
theorem succ_all (D : List Dep) (c : Int) : succD (D.take D.length) c = succD D c := by rw [List.take_length]
theorem mem_succ {D : List Dep} {d : Dep} (h : d ∈ D) : d.2 ∈ succD D d.1 := by
  unfold succD
  exact List.mem_map.2 ⟨d, List.mem_filter.2 ⟨h, by simp⟩, rfl⟩
def moveD (D : List Dep) (by_ : Int) : List Dep := D.map fun d => (d.1 + by_, d.2 + by_)
theorem move_length (D : List Dep) (z : Int) : (moveD D z).length = D.length := List.length_map ..
theorem move_at {D : List Dep} (z : Int) {k : Nat} (h : k < D.length) : atD (moveD D z) k = ((atD D k).1 + z, (atD D k).2 + z) := by
  rw [atD_get (by rw [move_length]; exact h), atD_get h]
  simp [moveD]
theorem move_next {D : List Dep} (z : Int) {k : Nat} (h : k < D.length) : moveD (D.take (k + 1)) z = moveD (D.take k) z ++ [((atD D k).1 + z, (atD D k).2 + z)] := by
  rw [atD_get h, List.take_succ_eq_append_getElem h, moveD, moveD, List.map_append]
  rfl
def inS (z : Int) : Bool := decide (-1000 ≤ z ∧ z ≤ 1000)
def shiftD (D : List Dep) (z : Int) : List Dep := if okD D && inS z && okD (moveD D z) then moveD D z else []
theorem shift_yes {D : List Dep} {z : Int} (h : okD D = true) (hz : inS z = true) (hm : okD (moveD D z) = true) : shiftD D z = moveD D z := by simp [shiftD, h, hz, hm]
theorem shift_no1 {D : List Dep} {z : Int} (h : okD D = false) : shiftD D z = [] := by simp [shiftD, h]
theorem shift_no2 {D : List Dep} {z : Int} (h : inS z = false) : shiftD D z = [] := by simp [shiftD, h]
theorem shift_no3 {D : List Dep} {z : Int} (h : okD (moveD D z) = false) : shiftD D z = [] := by simp [shiftD, h]
theorem shift_length (D : List Dep) (z : Int) : (shiftD D z).length ≤ D.length := by
  unfold shiftD
  split
  · rw [move_length]; exact Nat.le_refl _
  · simp
end Go.Proofs.Ytcmlnokfjbglaaa
end

section
namespace Go.Proofs.Ytcmlnokfjbglaaa
open Go.ChangeShapes Go.WideShapes Go.ChangeAt Go.RowKit
set_option linter.unusedVariables false

/-- A new list of numbers. -/
def NewI (L : List Int) (w : World) (e : Ending) (w' : World) : Prop :=
  ∃ v, e = .returned v ∧ w'.ownsRow w.heap.size 3 1 v L.length (intsV L) ∧ Below w.heap.size w w'
theorem below_box {w wr : World} {o : Obj} (h : Below (w.heap.size + 1) (w.alloc o) wr) : Below w.heap.size w wr := by
  have h0 : Below w.heap.size w (w.alloc o) := (Below.refl _ _).alloc (Nat.le_refl _) o
  exact ⟨h.os.trans h0.os, h.tape.trans h0.tape, h.output.trans h0.output, Nat.le_trans h0.size h.size, fun i hi => (h.block i (by omega)).trans (h0.block i hi)⟩
theorem below_gb {B : Nat} {a b c : World} (h : Below B a b) (hB : B ≤ a.heap.size) (k : b.grownBy c none) : Below B a c :=
  h.grown k (Nat.le_trans hB h.size) (fun j e => by cases e)
end Go.Proofs.Ytcmlnokfjbglaaa
end

section
namespace Go.Proofs.Ytcmlnokfjbglaaa
open Go.ChangeShapes Go.WideShapes Go.ChangeAt Go.RowKit
set_option linter.unusedVariables false

def depC (D : List Dep) : List Int := D.flatMap fun d => [d.1, d.2]
def depV (D : List Dep) : List Value := intsV (depC D)
theorem depC_nil : depC [] = [] := rfl
theorem depC_cons (d : Dep) (D : List Dep) : depC (d :: D) = d.1 :: d.2 :: depC D := rfl
theorem depC_append (D E : List Dep) : depC (D ++ E) = depC D ++ depC E := by simp [depC]
theorem depC_length (D : List Dep) : (depC D).length = D.length * 2 := by
  induction D with
  | nil => rfl
  | cons d D ih => rw [depC_cons, List.length_cons, List.length_cons, ih, List.length_cons]; omega
theorem depC_at : ∀ (D : List Dep) (k : Nat), k < D.length → (depC D)[k * 2]? = some (atD D k).1 ∧ (depC D)[k * 2 + 1]? = some (atD D k).2
  | [], k, h => by simp at h
  | d :: D, 0, h => ⟨rfl, rfl⟩
  | d :: D, k + 1, h => by
    have ih := depC_at D k (by simpa using h)
    have e1 : (k + 1) * 2 = k * 2 + 1 + 1 := by omega
    rw [depC_cons, e1]
    exact ih
theorem depC_take (D : List Dep) (i : Nat) : depC (D.take i) = (depC D).take (i * 2) := by
  induction D generalizing i with
  | nil => simp [depC_nil]
  | cons d D ih =>
    cases i with
    | zero => simp [depC_nil]
    | succ i =>
      have e1 : (i + 1) * 2 = i * 2 + 1 + 1 := by omega
      rw [List.take_succ_cons, depC_cons, depC_cons, e1, List.take_succ_cons, List.take_succ_cons, ih]
theorem depC_drop (D : List Dep) (i : Nat) : depC (D.drop i) = (depC D).drop (i * 2) := by
  induction D generalizing i with
  | nil => simp [depC_nil]
  | cons d D ih =>
    cases i with
    | zero => simp
    | succ i =>
      have e1 : (i + 1) * 2 = i * 2 + 1 + 1 := by omega
      rw [List.drop_succ_cons, depC_cons, e1, List.drop_succ_cons, List.drop_succ_cons, ih]
theorem depV_append (D E : List Dep) : depV (D ++ E) = depV D ++ depV E := by rw [depV, depC_append, intsV_append]; rfl
theorem depV_length (D : List Dep) : (depV D).length = D.length * 2 := by rw [depV, intsV_length, depC_length]
theorem depV_one (x y : Int) : depV [(x, y)] = [.int .i64 x, .int .i64 y] := rfl
theorem depV_take (D : List Dep) (i : Nat) : depV (D.take i) = (depV D).take (i * 2) := by rw [depV, depC_take, depV, intsV, intsV, List.map_take]
theorem depV_drop (D : List Dep) (i : Nat) : depV (D.drop i) = (depV D).drop (i * 2) := by rw [depV, depC_drop, depV, intsV, intsV, List.map_drop]
theorem depV_at (D : List Dep) (k : Nat) (h : k < D.length) : (depV D)[k * 2]? = some (.int .i64 (atD D k).1) ∧ (depV D)[k * 2 + 1]? = some (.int .i64 (atD D k).2) := by
  obtain ⟨h1, h2⟩ := depC_at D k h
  simp [depV, intsV, h1, h2]
theorem depV_one1 (D : List Dep) : ∀ v ∈ depV D, v.oneCell' = true := by
  intro v hv
  simp only [depV, intsV, List.mem_map] at hv
  obtain ⟨x, _, rfl⟩ := hv
  rfl

/-- The slice's n elements are those of D, in a block below B. -/
def DepAt (w : World) (B : Nat) (A : Option Addr) (n : Nat) (D : List Dep) : Prop :=
  D.length = n ∧ (0 < n → ∃ b off, A = some ⟨b, off, none⟩ ∧ b < B ∧ ∀ k, k < n → w.cell? ⟨b, off + k * 2, none⟩ = some (.int .i64 (atD D k).1) ∧ w.cell? ⟨b, off + k * 2 + 1, none⟩ = some (.int .i64 (atD D k).2))
section
variable {w w' : World} {B B' n : Nat} {A : Option Addr} {D : List Dep}
theorem DepAt.keep (h : DepAt w B A n D) (hk : ∀ p : Addr, p.block < B → w'.cell? p = w.cell? p) : DepAt w' B A n D := ⟨h.1, fun hn => by
  obtain ⟨b, off, hA, hb, hc⟩ := h.2 hn
  exact ⟨b, off, hA, hb, fun k hk' => ⟨(hk _ hb).trans (hc k hk').1, (hk _ hb).trans (hc k hk').2⟩⟩⟩
theorem DepAt.more (h : DepAt w B A n D) (hB : B ≤ B') : DepAt w B' A n D := ⟨h.1, fun hn => by
  obtain ⟨b, off, hA, hb, hc⟩ := h.2 hn
  exact ⟨b, off, hA, by omega, hc⟩⟩
theorem DepAt.grown {row : Option Nat} (h : DepAt w B A n D) (hB : B ≤ w.heap.size) (hg : w.grownBy w' row) (hr : ∀ k, row = some k → B ≤ k) : DepAt w' B A n D :=
  h.keep fun p hp => World.cell?_of_block (hg.block p.block (by omega) (fun e => by have := hr _ e.symm; omega))
theorem DepAt.none (h : DepAt w B A n D) (hB : B ≤ w.heap.size) (hg : w.grownBy w' none) : DepAt w' B A n D := h.grown hB hg (fun k e => by cases e)
theorem DepAt.below (h : DepAt w B A n D) (hb : Below B w w') : DepAt w' B A n D := h.keep fun p hp => World.cell?_of_block (hb.block p.block hp)
theorem DepAt.nil (w : World) (B : Nat) (A : Option Addr) : DepAt w B A 0 [] := ⟨rfl, fun h => by omega⟩
/-- One element. -/
theorem DepAt.at (h : DepAt w B A n D) (k : Nat) (hk : k < n) : ∃ b off, A = some ⟨b, off, Option.none⟩ ∧ b < B ∧ w.cell? ⟨b, off + k * 2, Option.none⟩ = some (.int .i64 (atD D k).1) ∧ w.cell? ⟨b, off + k * 2 + 1, Option.none⟩ = some (.int .i64 (atD D k).2) := by
  obtain ⟨b, off, hA, hb, hc⟩ := h.2 (by omega)
  exact ⟨b, off, hA, hb, hc k hk⟩
end
theorem dep_cell {w : World} {base n g cap : Nat} {D : List Dep} (h : w.ownsRow base 39 2 (.slice (some ⟨g, 0, none⟩) n cap) n (depV D)) (k : Nat) (hk : k < D.length) :
    w.cell? ⟨g, k * 2, none⟩ = some (.int .i64 (atD D k).1) ∧ w.cell? ⟨g, k * 2 + 1, none⟩ = some (.int .i64 (atD D k).2) := by
  have hl := h.1
  rw [depV_length] at hl
  obtain ⟨h1, h2⟩ := depV_at D k hk
  exact ⟨(h.cellAt (k * 2) (by omega)).trans h1, (h.cellAt (k * 2 + 1) (by omega)).trans h2⟩
theorem own_dep_length {w : World} {base n : Nat} {v : Value} {D : List Dep} (h : w.ownsRow base 39 2 v n (depV D)) : D.length = n := by
  have := h.1
  rw [depV_length] at this
  omega
theorem depAt_own {w : World} {base n B cap : Nat} {A : Option Addr} {D : List Dep} (h : w.ownsRow base 39 2 (.slice A n cap) n (depV D)) (hB : w.heap.size ≤ B) : DepAt w B A n D :=
  ⟨own_dep_length h, fun hn => by
    have hl := own_dep_length h
    obtain ⟨A', cap', hv, ha⟩ := own_form h
    obtain ⟨g, hg⟩ := ha hn
    obtain ⟨rfl, rfl⟩ : A = A' ∧ cap = cap' := by injection hv with h1 h2 h3; exact ⟨h1, h3⟩
    subst hg
    exact ⟨g, 0, rfl, by have := (h.lt g rfl).2; omega, fun k hk => by rw [Nat.zero_add]; exact dep_cell h k (by omega)⟩⟩
/-- A new list of dependencies. -/
def NewD (D : List Dep) (w : World) (e : Ending) (w' : World) : Prop :=
  ∃ v, e = .returned v ∧ w'.ownsRow w.heap.size 39 2 v D.length (depV D) ∧ Below w.heap.size w w'
theorem own_nilD {D : List Dep} (h : D = []) (w : World) (base : Nat) : w.ownsRow base 39 2 (.slice none 0 0) D.length (depV D) := by subst h; exact World.ownsRow_nil _ _ _ _
def depX (d : Dep) : Value := .agg #[.int .i64 d.1, .int .i64 d.2]
/-- A dependency in a box of the callee's own. -/
def boxD (d : Dep) (w : World) : World := w.alloc (.cells #[.int .i64 d.1, .int .i64 d.2] 39)
theorem boxD_gb (d : Dep) (w : World) : w.grownBy (boxD d w) none := gb_alloc (gb_refl _ _) _
theorem boxD_blk (d : Dep) (w : World) : Blk (boxD d w) w.heap.size 39 #[.int .i64 d.1, .int .i64 d.2] := Blk.new w 39 #[.int .i64 d.1, .int .i64 d.2]
theorem info_dep : (Try.prog.info? 39).map (fun i => (i.zero, i.size, i.bytes)) = some (some (.agg #[.int .i64 0, .int .i64 0]), 2, 16) := by kernel_rfl
end Go.Proofs.Ytcmlnokfjbglaaa
end

section
namespace Go.Proofs.Ytcmlnokfjbglaaa
open Go.ChangeShapes Go.WideShapes Go.ChangeAt Go.RowKit
set_option linter.unusedVariables false

/-- A row: its element type, cells an element, the slice, its length, its cells. -/
structure RS where
  e : TypeId
  sz : Nat
  v : Value
  n : Nat
  xs : List Value
def Rw (wr : World) (lo hi : Nat) (r : RS) : Prop := wr.ownsRow lo r.e r.sz r.v r.n r.xs ∧ ∀ k, r.v.ownBlock = some k → k < hi
def rs0 : RS := ⟨39, 2, .slice none 0 0, 0, []⟩
section
variable {wr w' : World} {lo hi lo' hi' : Nat} {r r' : RS}
theorem Rw.nil (wr : World) (lo hi : Nat) : Rw wr lo hi rs0 := ⟨World.ownsRow_nil _ _ _ _, fun k h => by cases h⟩
theorem Rw.low (h : Rw wr lo hi r) {k : Nat} (hk : r.v.ownBlock = some k) : lo ≤ k := (h.1.lt k hk).1
theorem Rw.keep {row : Option Nat} (h : Rw wr lo hi r) (hg : wr.grownBy w' row) (hne : ∀ k, row = some k → k < lo ∨ hi ≤ k) : Rw w' lo hi r :=
  ⟨h.1.kept hg (by
    cases hv : r.v.ownBlock with
    | none => exact .inl rfl
    | some k => exact .inr (fun e => by have h1 := h.low hv; have h2 := h.2 k hv; rcases hne k e.symm with h3 | h3 <;> omega)), h.2⟩
theorem Rw.gb (h : Rw wr lo hi r) (hg : wr.grownBy w' none) : Rw w' lo hi r := h.keep hg (fun k e => by cases e)
theorem Rw.other (h : Rw wr lo hi r) (h' : Rw wr lo' hi' r') (hg : wr.grownBy w' r'.v.ownBlock) (hd : hi ≤ lo' ∨ hi' ≤ lo) : Rw w' lo hi r :=
  h.keep hg (fun k e => by have h1 := h'.low e; have h2 := h'.2 k e; omega)
end
/-- Four rows, one behind the other; nothing below is touched. -/
structure LL (w : World) (s1 s2 s3 s4 : Nat) (r0 r1 r2 r3 : RS) (wr : World) : Prop where
  lb : Below w.heap.size w wr
  h0 : Rw wr w.heap.size s1 r0
  h1 : Rw wr s1 s2 r1
  h2 : Rw wr s2 s3 r2
  h3 : Rw wr s3 s4 r3
  o1 : w.heap.size ≤ s1
  o2 : s1 ≤ s2
  o3 : s2 ≤ s3
  o4 : s3 ≤ s4
  o5 : s4 ≤ wr.heap.size
section
variable {w wr w' : World} {s1 s2 s3 s4 : Nat} {r0 r1 r2 r3 r : RS}
theorem LL.start (w : World) : LL w w.heap.size w.heap.size w.heap.size w.heap.size rs0 rs0 rs0 rs0 w :=
  ⟨Below.refl _ _, Rw.nil _ _ _, Rw.nil _ _ _, Rw.nil _ _ _, Rw.nil _ _ _, Nat.le_refl _, Nat.le_refl _, Nat.le_refl _, Nat.le_refl _, Nat.le_refl _⟩
theorem LL.gb (h : LL w s1 s2 s3 s4 r0 r1 r2 r3 wr) (hg : wr.grownBy w' none) : LL w s1 s2 s3 s4 r0 r1 r2 r3 w' :=
  ⟨below_gb h.lb (Nat.le_refl _) hg, h.h0.gb hg, h.h1.gb hg, h.h2.gb hg, h.h3.gb hg, h.o1, h.o2, h.o3, h.o4, Nat.le_trans h.o5 hg.size⟩
theorem LL.bl (h : LL w s1 s2 s3 s4 r0 r1 r2 r3 wr) (hb : Below wr.heap.size wr w') : LL w s1 s2 s3 s4 r0 r1 r2 r3 w' := h.gb (gb_of_below hb none)
theorem LL.add0 (h : LL w s1 s2 s3 s4 rs0 rs0 rs0 rs0 wr) (ho : w'.ownsRow wr.heap.size r.e r.sz r.v r.n r.xs) (hb : Below wr.heap.size wr w') : LL w w'.heap.size w'.heap.size w'.heap.size w'.heap.size r rs0 rs0 rs0 w' := by
  have k := h.bl hb
  have e1 := h.lb.size
  have e2 := hb.size
  exact ⟨k.lb, ⟨own_less ho e1, fun q hq => (ho.lt q hq).2⟩, Rw.nil _ _ _, Rw.nil _ _ _, Rw.nil _ _ _, by omega, Nat.le_refl _, Nat.le_refl _, Nat.le_refl _, Nat.le_refl _⟩
theorem LL.add1 (h : LL w s1 s2 s3 s4 r0 rs0 rs0 rs0 wr) (ho : w'.ownsRow wr.heap.size r.e r.sz r.v r.n r.xs) (hb : Below wr.heap.size wr w') : LL w s1 w'.heap.size w'.heap.size w'.heap.size r0 r rs0 rs0 w' := by
  have k := h.bl hb
  have e2 := hb.size
  have i1 := h.o1; have i2 := h.o2; have i3 := h.o3; have i4 := h.o4; have i5 := h.o5
  exact ⟨k.lb, k.h0, ⟨own_less ho (by omega), fun q hq => (ho.lt q hq).2⟩, Rw.nil _ _ _, Rw.nil _ _ _, h.o1, by omega, Nat.le_refl _, Nat.le_refl _, Nat.le_refl _⟩
theorem LL.add2 (h : LL w s1 s2 s3 s4 r0 r1 rs0 rs0 wr) (ho : w'.ownsRow wr.heap.size r.e r.sz r.v r.n r.xs) (hb : Below wr.heap.size wr w') : LL w s1 s2 w'.heap.size w'.heap.size r0 r1 r rs0 w' := by
  have k := h.bl hb
  have e2 := hb.size
  have i1 := h.o1; have i2 := h.o2; have i3 := h.o3; have i4 := h.o4; have i5 := h.o5
  exact ⟨k.lb, k.h0, k.h1, ⟨own_less ho (by omega), fun q hq => (ho.lt q hq).2⟩, Rw.nil _ _ _, h.o1, h.o2, by omega, Nat.le_refl _, Nat.le_refl _⟩
theorem LL.add3 (h : LL w s1 s2 s3 s4 r0 r1 r2 rs0 wr) (ho : w'.ownsRow wr.heap.size r.e r.sz r.v r.n r.xs) (hb : Below wr.heap.size wr w') : LL w s1 s2 s3 w'.heap.size r0 r1 r2 r w' := by
  have k := h.bl hb
  have e2 := hb.size
  have i1 := h.o1; have i2 := h.o2; have i3 := h.o3; have i4 := h.o4; have i5 := h.o5
  exact ⟨k.lb, k.h0, k.h1, k.h2, ⟨own_less ho (by omega), fun q hq => (ho.lt q hq).2⟩, h.o1, h.o2, h.o3, by omega, Nat.le_refl _⟩
theorem LL.set1 (h : LL w s1 s2 s3 s4 r0 r1 r2 r3 wr) (hv : r.v = r1.v) (ho : w'.ownsRow s1 r.e r.sz r.v r.n r.xs) (hg : wr.grownBy w' r1.v.ownBlock) : LL w s1 s2 s3 s4 r0 r r2 r3 w' := by
  have i1 := h.o1; have i2 := h.o2; have i3 := h.o3; have i4 := h.o4; have i5 := h.o5
  exact ⟨h.lb.grown hg (by omega) (fun q hq => by have := h.h1.low hq; omega), h.h0.other h.h1 hg (.inl (Nat.le_refl _)), ⟨ho, fun q hq => h.h1.2 q (hv ▸ hq)⟩, h.h2.other h.h1 hg (.inr (Nat.le_refl _)), h.h3.other h.h1 hg (.inr (by omega)), i1, i2, i3, i4, Nat.le_trans i5 hg.size⟩
theorem LL.set2 (h : LL w s1 s2 s3 s4 r0 r1 r2 r3 wr) (hv : r.v = r2.v) (ho : w'.ownsRow s2 r.e r.sz r.v r.n r.xs) (hg : wr.grownBy w' r2.v.ownBlock) : LL w s1 s2 s3 s4 r0 r1 r r3 w' := by
  have i1 := h.o1; have i2 := h.o2; have i3 := h.o3; have i4 := h.o4; have i5 := h.o5
  exact ⟨h.lb.grown hg (by omega) (fun q hq => by have := h.h2.low hq; omega), h.h0.other h.h2 hg (.inl (by omega)), h.h1.other h.h2 hg (.inl (Nat.le_refl _)), ⟨ho, fun q hq => h.h2.2 q (hv ▸ hq)⟩, h.h3.other h.h2 hg (.inr (Nat.le_refl _)), i1, i2, i3, i4, Nat.le_trans i5 hg.size⟩
theorem LL.set3 (h : LL w s1 s2 s3 s4 r0 r1 r2 r3 wr) (hv : r.v = r3.v) (ho : w'.ownsRow s3 r.e r.sz r.v r.n r.xs) (hg : wr.grownBy w' r3.v.ownBlock) : LL w s1 s2 s3 s4 r0 r1 r2 r w' := by
  have i1 := h.o1; have i2 := h.o2; have i3 := h.o3; have i4 := h.o4; have i5 := h.o5
  exact ⟨h.lb.grown hg (by omega) (fun q hq => by have := h.h3.low hq; omega), h.h0.other h.h3 hg (.inl (by omega)), h.h1.other h.h3 hg (.inl (by omega)), h.h2.other h.h3 hg (.inl (Nat.le_refl _)), ⟨ho, fun q hq => h.h3.2 q (hv ▸ hq)⟩, i1, i2, i3, i4, Nat.le_trans i5 hg.size⟩
theorem LL.at (h : LL w s1 s2 s3 s4 r0 r1 r2 r3 wr) {A : Option Addr} {n : Nat} {D : List Dep} (hi : DepAt w w.heap.size A n D) : DepAt wr wr.heap.size A n D := (hi.below h.lb).more h.lb.size
theorem LL.atI (h : LL w s1 s2 s3 s4 r0 r1 r2 r3 wr) {A : Option Addr} {n : Nat} {L : List Int} (hi : IntAt w w.heap.size A n L) : IntAt wr wr.heap.size A n L := (hi.below h.lb).more h.lb.size
end
def rsI (v : Value) (L : List Int) : RS := ⟨3, 1, v, L.length, intsV L⟩
def rsD (v : Value) (D : List Dep) : RS := ⟨39, 2, v, D.length, depV D⟩
theorem cast_ints {w : World} {lo n : Nat} {v : Value} {L : List Int} (h : w.ownsRow lo 3 1 v n (intsV L)) : w.ownsRow lo 3 1 v L.length (intsV L) := by
  have := own_ints_length h
  subst this
  exact h
theorem cast_deps {w : World} {lo n : Nat} {v : Value} {D : List Dep} (h : w.ownsRow lo 39 2 v n (depV D)) : w.ownsRow lo 39 2 v D.length (depV D) := by
  have := own_dep_length h
  subst this
  exact h
end Go.Proofs.Ytcmlnokfjbglaaa
end

section
namespace Go.Proofs.Ytcmlnokfjbglaaa
open Go.ChangeShapes Go.WideShapes Go.ChangeAt Go.RowKit
set_option linter.unusedVariables false
set_option maxRecDepth 20000

theorem gb_drD {a b : World} {row : Option Nat} (h : a.drew.grownBy b row) : a.grownBy b row := ⟨h.os, h.tape, h.output, h.size, h.block⟩
theorem depV_cons (d : Dep) (D : List Dep) : depV (d :: D) = .int .i64 d.1 :: .int .i64 d.2 :: depV D := rfl
theorem depV_set : ∀ (D : List Dep) (k : Nat) (x y : Int), ((depV D).set (k * 2) (.int .i64 x)).set (k * 2 + 1) (.int .i64 y) = depV (D.set k (x, y))
  | [], k, x, y => by simp [depV, depC_nil, intsV]
  | d :: D, 0, x, y => rfl
  | d :: D, k + 1, x, y => by
    have e1 : (k + 1) * 2 = k * 2 + 1 + 1 := by omega
    have e2 : (k + 1) * 2 + 1 = k * 2 + 1 + 1 + 1 := by omega
    rw [e2, e1, depV_cons, List.set_cons_succ, List.set_cons_succ, List.set_cons_succ, List.set_cons_succ, depV_set D k x y, List.set_cons_succ, depV_cons]
theorem madeDeps (n : Nat) : (madeCells (Value.agg #[.int .i64 0, .int .i64 0]).cells (n * 2)).toList = depV (List.replicate n (0, 0)) := by
  have e : ∀ n, depV (List.replicate n (0, 0)) = List.replicate (n * 2) (.int .i64 0) := fun n => by
    induction n with
    | zero => rfl
    | succ n ih => rw [List.replicate_succ, depV_cons, ih, show (n + 1) * 2 = n * 2 + 1 + 1 by omega, List.replicate_succ, List.replicate_succ]
  rw [e]
  apply List.ext_getElem?
  intro j
  by_cases hj : j < n * 2
  · have : j % 2 = 0 ∨ j % 2 = 1 := by omega
    rcases this with h | h <;> simp [madeCells, Value.cells, hj, h]
  · simp [madeCells, Value.cells, hj]

/-- The first k elements of D, then zeros. -/
def fillD (D : List Dep) (n k : Nat) : List Dep := (List.range n).map fun t => if t < k then atD D t else (0, 0)
theorem fillD_zero (D : List Dep) (n : Nat) : fillD D n 0 = List.replicate n (0, 0) := by
  refine List.ext_getElem (by simp [fillD]) fun i h1 h2 => ?_
  simp [fillD]
theorem fillD_succ (D : List Dep) (n k : Nat) : (fillD D n k).set k (atD D k) = fillD D n (k + 1) := by
  refine List.ext_getElem (by simp [fillD]) fun i h1 h2 => ?_
  rw [List.getElem_set]
  by_cases e : k = i
  · subst e; simp [fillD]
  · simp only [e, if_false, fillD, List.getElem_map, List.getElem_range]
    by_cases hi : i < k
    · rw [if_pos hi, if_pos (by omega)]
    · rw [if_neg hi, if_neg (by omega)]
theorem fillD_next (D : List Dep) (n k : Nat) (x : Dep) (h : atD D k = x) : (fillD D n k).set k (x.1, x.2) = fillD D n (k + 1) := by rw [← h]; exact fillD_succ D n k
theorem fillD_all (D : List Dep) (n : Nat) (h : D.length = n) : fillD D n n = D := by
  refine List.ext_getElem (by simp [fillD, h]) fun i h1 h2 => ?_
  have : i < n := by omega
  simp only [fillD, List.getElem_map, List.getElem_range, this, if_true]
  exact atD_get h2
theorem fillD_length (D : List Dep) (n k : Nat) : (fillD D n k).length = n := by simp [fillD]

/-- A new row that holds the elements of D. -/
def NewDep (D : List Dep) (w : World) (e : Ending) (w' : World) : Prop :=
  ∃ g, e = .returned (.slice (some ⟨g, 0, none⟩) D.length D.length) ∧ w'.ownsRow w.heap.size 39 2 (.slice (some ⟨g, 0, none⟩) D.length D.length) D.length (depV D) ∧ Below w.heap.size w w'
def FillAt (w : World) (n : Nat) (D : List Dep) (k : Nat) (v : Value) (wr : World) : Prop := wr.ownsRow w.heap.size 39 2 v n (depV (fillD D n k)) ∧ Below w.heap.size w wr

def markD (k0 n j : Nat) (l : List Dep) : List Dep := (List.range n).map fun t => if t < j then (((k0 + t * 2 : Nat) : Int), ((k0 + t * 2 + 1 : Nat) : Int)) else atD l t
theorem markD_zero (k0 n : Nat) (l : List Dep) (h : l.length = n) : markD k0 n 0 l = l := by
  refine List.ext_getElem (by simp [markD, h]) fun i h1 h2 => ?_
  simp only [markD, List.getElem_map, List.getElem_range, Nat.not_lt_zero, if_false]
  exact atD_get h2
theorem markD_succ (k0 n j : Nat) (l : List Dep) : (markD k0 n j l).set j (((k0 + j * 2 : Nat) : Int), ((k0 + j * 2 + 1 : Nat) : Int)) = markD k0 n (j + 1) l := by
  refine List.ext_getElem (by simp [markD]) fun i h1 h2 => ?_
  rw [List.getElem_set]
  by_cases e : j = i
  · subst e; simp [markD]
  · simp only [e, if_false, markD, List.getElem_map, List.getElem_range]
    by_cases hi : i < j
    · rw [if_pos hi, if_pos (by omega)]
    · rw [if_neg hi, if_neg (by omega)]
theorem markD_length (k0 n j : Nat) (l : List Dep) : (markD k0 n j l).length = n := by simp [markD]
def marksD (k0 n : Nat) : List Dep := markD k0 n n []
theorem markD_all (k0 n : Nat) (l : List Dep) : markD k0 n n l = marksD k0 n := by
  refine List.ext_getElem (by simp [markD, marksD]) fun i h1 h2 => ?_
  have : i < n := by simpa [markD] using h1
  simp [markD, marksD, this]
theorem marksD_length (k0 n : Nat) : (marksD k0 n).length = n := markD_length k0 n n []
theorem marksD_get (k0 n j : Nat) (h : j < n) : atD (marksD k0 n) j = (((k0 + j * 2 : Nat) : Int), ((k0 + j * 2 + 1 : Nat) : Int)) := by
  rw [atD_get (by rw [marksD_length]; exact h)]
  simp [marksD, markD, h]
theorem there_own {w : World} {base g n cap : Nat} {D : List Dep} (h : w.ownsRow base 39 2 (.slice (some ⟨g, 0, none⟩) n cap) n (depV D)) {k : Nat} (hk : k < n) : w.there g (k * 2) 2 := fun j hj => by
  have hl := h.1
  refine ⟨?_, h.frozenAt _⟩
  rw [h.cellAt (k * 2 + j) (by omega), List.getElem?_eq_getElem (by omega)]
  rfl
theorem stored_own {w : World} {base g n cap : Nat} {D : List Dep} (h : w.ownsRow base 39 2 (.slice (some ⟨g, 0, none⟩) n cap) n (depV D)) (k : Nat) (x y : Int) :
    (w.setCells g (k * 2) [.int .i64 x, .int .i64 y]).ownsRow base 39 2 (.slice (some ⟨g, 0, none⟩) n cap) n (depV (D.set k (x, y))) ∧ w.grownBy (w.setCells g (k * 2) [.int .i64 x, .int .i64 y]) (some g) := by
  obtain ⟨h1, g1⟩ := h.stored (k * 2) (.int .i64 x)
  obtain ⟨h2, g2⟩ := h1.stored (k * 2 + 1) (.int .i64 y)
  rw [depV_set] at h2
  exact ⟨h2, gb_trans g1 g2⟩
end Go.Proofs.Ytcmlnokfjbglaaa
end

section
namespace Go.Proofs.Ytcmlnokfjbglaaa
open Go.ChangeShapes Go.WideShapes Go.ChangeAt Go.RowKit
set_option linter.unusedVariables false
set_option maxRecDepth 20000

theorem lawsToDepend (x y : Int) (w : World) :
    Calls Try.prog 64 #[.agg #[.int .i64 x, .int .i64 y]] w fun e w' => e = .returned (.agg #[.int .i64 x, .int .i64 y]) ∧ w.grownBy w' none := by
  go_enter Try.func64, Try.ntmps64
  go_wp2_with fail
  refine bodyPost_ret (v := .agg #[.int .i64 x, .int .i64 y]) (by simp [results, Try.results64, go_sem]) rfl ⟨rfl, ?_⟩
  exact gb_alloc (gb_alloc (gb_alloc (gb_refl _ _) _) _) _

theorem lawsToDepS (A : Option Addr) (n cap : Nat) (D : List Dep) (w : World) (h : DepAt w w.heap.size A n D) (hn : n ≤ 1048576) :
    Calls Try.prog 24 #[.slice A n cap] w (NewDep D w) := by
  obtain ⟨i0, hi, hz0, hz1, hz2⟩ := info_parts info_dep
  have hl := h.1
  have HI := Lib.hid h
  have HT := Lib.hid (fun x y w => lawsToDepend x y w)
  clear h
  go_enter Try.func24, Try.ntmps24
  go_wp2_with (at_make; refine wpList_make_full _ rfl _ _ 24 rfl w.heap.size 39 i0 (.agg #[.int .i64 0, .int .i64 0]) 2 Try.underlying24 hi hz0 hz1 .i64 .i64 _ _ n rfl rfl (by omega) (by omega) (by rw [hz2]; omega) (by unfold maxLen; omega) (Nat.le_refl _) ?_; intro w0 hown0 hgrow0)
  have hz : (madeCells (Value.agg #[.int .i64 0, .int .i64 0]).cells (n * 2)).toList = depV (fillD D n 0) := by rw [fillD_zero]; exact madeDeps n
  have X : FillAt w n D 0 (.slice (some ⟨w.heap.size, 0, none⟩) n n) w0 := ⟨by rw [← hz]; exact hown0, gb_below_none hgrow0 (Nat.le_refl _)⟩
  have HX := Lib.hid X
  clear X hz hown0 hgrow0
  go_loopw [4] (fun i wr => ∃ k : Nat, k ≤ n ∧ i = .int .i64 (k : Int) ∧ FillAt w n D k (.slice (some ⟨w.heap.size, 0, none⟩) n n) wr) (fun i _ => n - (intOf i).toNat)
  case atStart => exact ⟨0, Nat.zero_le _, rfl, HX.out⟩
  case round =>
    obtain ⟨k, hk, rfl, hown, hbel⟩ := hrel
    have HB := Lib.hid hbel
    have HO := Lib.hid hown
    by_cases hlt : k < n
    · obtain ⟨b, off, rfl, hbB, c0, c1⟩ := (HI.out.below hbel).at k hlt
      obtain ⟨x, hx⟩ : ∃ x, atD D k = x := ⟨_, rfl⟩
      rw [hx] at c0 c1
      have k0 : (0 : Int) ≤ (k : Int) := by omega
      have k1 : (k : Int) < (n : Int) := by omega
      have HF := Lib.hid (fillD_next D n k x hx)
      clear hown hbel hx
      go_wp2_with fail
      refine (HT.out x.1 x.2 _).mono ?_
      rintro e w4 ⟨rfl, hg4⟩
      have O4 := Lib.hid (own_none HO.out hg4)
      have B4 := Lib.hid (below_gb HB.out (Nat.le_refl _) hg4)
      clear hg4 c0 c1
      go_wp2_with (refine wpList_store_mid rfl 39 (.tmp 21) (.tmp 20) rfl w.heap.size (k * 2) #[.int .i64 x.1, .int .i64 x.2] rfl rfl (there_own O4.out hlt) (by rw [hi]; simp [hz1]) (by simp [Value.oneCell']) ?_)
      have X5 := Lib.hid (show FillAt w n D (k + 1) (.slice (some ⟨w.heap.size, 0, none⟩) n n) (w4.setCells w.heap.size (k * 2) [.int .i64 x.1, .int .i64 x.2]) from by
        obtain ⟨h1, h2⟩ := stored_own O4.out k x.1 x.2
        rw [HF.out] at h1
        exact ⟨h1, B4.out.grown h2 B4.out.size (fun j e => by cases e; exact Nat.le_refl _)⟩)
      go_roundw
      case rel => exact ⟨k + 1, by omega, by go_num, X5.out⟩
      case measure => simp [intOf]; omega
    · obtain rfl : k = n := by omega
      have HO := Lib.hid hown
      clear hown hbel
      go_wp2_with fail
      go_ret
      refine ⟨w.heap.size, by rw [hl]; rfl, ?_, HB.out⟩
      have h3 := HO.out
      rw [fillD_all D k hl] at h3
      rw [hl]
      exact h3
end Go.Proofs.Ytcmlnokfjbglaaa
end

section
namespace Go.Proofs.Ytcmlnokfjbglaaa
open Go.ChangeShapes Go.WideShapes Go.ChangeAt Go.RowKit
set_option linter.unusedVariables false
set_option maxRecDepth 20000

theorem lawsSzD (A : Option Addr) (n cap : Nat) (m : Int) (w : World) (hn : n ≤ 9223372036854775807) (hm0 : 0 ≤ m) (hm1 : m ≤ 1048576) :
    Calls Try.prog 22 #[.slice A n cap, .int .i64 m] w fun e w' => e = .returned (.int .i64 (if m < (n : Int) then -1 else m - n)) ∧ w = w' := by
  by_cases hlt : m < (n : Int)
  · go_enter Try.func22, Try.ntmps22
    go_wp2_with fail
    go_ret
    exact ⟨ret_int64 (by (repeat' split) <;> first | rfl | omega), rfl⟩
  · go_enter Try.func22, Try.ntmps22
    go_wp2_with fail
    go_ret
    exact ⟨ret_int64 (by (repeat' split) <;> first | rfl | omega), rfl⟩
end Go.Proofs.Ytcmlnokfjbglaaa
end

section
namespace Go.Proofs.Ytcmlnokfjbglaaa
open Go.ChangeShapes Go.WideShapes Go.ChangeAt Go.RowKit
set_option linter.unusedVariables false
set_option maxRecDepth 20000

theorem lawsEqDepend (x y : Int) (w : World) :
    Calls Try.prog 65 #[.agg #[.int .i64 x, .int .i64 y], .agg #[.int .i64 x, .int .i64 y]] w (RetB true w) := by
  go_enter Try.func65, Try.ntmps65
  go_wp2_with fail
  go_ret
  exact ⟨rfl, gb_alloc (gb_alloc (gb_refl _ _) _) _⟩
theorem lawsEqD (A1 A2 : Option Addr) (n c1 c2 : Nat) (D : List Dep) (w : World) (h1 : DepAt w w.heap.size A1 n D) (h2 : DepAt w w.heap.size A2 n D) (hn : n ≤ 1000000000) :
    Calls Try.prog 25 #[.slice A1 n c1, .slice A2 n c2] w (RetB true w) := by
  have H1 := Lib.hid h1
  have H2 := Lib.hid h2
  have HE := Lib.hid (fun x y w => lawsEqDepend x y w)
  clear h1 h2
  go_enter Try.func25, Try.ntmps25
  go_wp2_with fail
  go_loopw [5] (fun i wr => ∃ k : Nat, i = .int .i64 (k : Int) ∧ k ≤ n ∧ w.grownBy wr none) (fun i _ => n - (intOf i).toNat)
  case atStart => exact ⟨0, rfl, Nat.zero_le _, gb_refl _ _⟩
  case round =>
    obtain ⟨k, rfl, hk, hg⟩ := hrel
    have HG := Lib.hid hg
    by_cases hlt : k < n
    · obtain ⟨g1, o1, rfl, _, a0, a1⟩ := (H1.out.none (Nat.le_refl _) hg).at k hlt
      obtain ⟨g2, o2, rfl, _, b0, b1⟩ := (H2.out.none (Nat.le_refl _) hg).at k hlt
      obtain ⟨x, hx⟩ : ∃ x, atD D k = x := ⟨_, rfl⟩
      rw [hx] at a0 a1 b0 b1
      have k0 : (0 : Int) ≤ (k : Int) := by omega
      have k1 : (k : Int) < (n : Int) := by omega
      clear hx hg
      go_wp2_with fail
      go_region_held3 (fun w' => w'.cell? ⟨g1, o1 + k * 2, none⟩ = some (.int .i64 x.1) ∧ w'.cell? ⟨g1, o1 + k * 2 + 1, none⟩ = some (.int .i64 x.2) ∧ w'.cell? ⟨g2, o2 + k * 2, none⟩ = some (.int .i64 x.1) ∧ w'.cell? ⟨g2, o2 + k * 2 + 1, none⟩ = some (.int .i64 x.2))
        (first | exact ⟨a0, a1, b0, b1⟩ | exact ⟨d0, d1, d2, d3⟩ | fail)
        (first
          | (go_at_call 65; (with_reducible refine (HE.out x.1 x.2 _).mono ?_); rintro e w4 ⟨rfl, hg4⟩; have h4 := gb_drD hg4; have d0 := h4.cell a0 (by simp); have d1 := h4.cell a1 (by simp); have d2 := h4.cell b0 (by simp); have d3 := h4.cell b1 (by simp); have G4 := Lib.hid (gb_trans HG.out h4); clear h4 hg4)
          | fail)
      all_goals
        clear d0 d1 d2 d3 a0 a1 b0 b1
        go_wp2_with fail
        go_roundw
        case rel => exact ⟨k + 1, by go_num, by omega, G4.out⟩
        case measure => simp [intOf]; omega
    · obtain rfl : k = n := by omega
      clear hg
      go_wp2_with fail
      go_ret
      exact ⟨rfl, HG.out⟩

theorem lawsMarkD (v : Value) (base n k0 : Nat) (l : List Dep) (w : World) (h : w.ownsRow base 39 2 v n (depV l)) (hk : k0 + n * 2 ≤ 1000000000) :
    Calls Try.prog 26 #[v, .int .i64 (k0 : Int)] w fun e w' => e = .returned (.int .i64 ((k0 + n * 2 : Nat) : Int)) ∧ w'.ownsRow base 39 2 v n (depV (marksD k0 n)) ∧ w.grownBy w' v.ownBlock := by
  have hxl := own_dep_length h
  obtain ⟨A, cap, rfl, ha⟩ := own_form h
  have h' := h
  rw [← markD_zero k0 n l hxl] at h'
  clear h hxl
  have H0 := Lib.hid h'
  clear h'
  go_enter Try.func26, Try.ntmps26
  go_wp2_with fail
  go_loopw [1, 5] (fun q i wr => ∃ j : Nat, j ≤ n ∧ q = .int .i64 ((k0 + j * 2 : Nat) : Int) ∧ i = .int .i64 (j : Int) ∧ wr.ownsRow base 39 2 (.slice A n cap) n (depV (markD k0 n j l)) ∧ w.grownBy wr (Value.slice A n cap).ownBlock) (fun _ i _ => n - (intOf i).toNat)
  case atStart => exact ⟨0, Nat.zero_le _, rfl, rfl, H0.out, gb_refl _ _⟩
  case round =>
    obtain ⟨j, hj, rfl, rfl, hown, hgr⟩ := hrel
    have HG := Lib.hid hgr
    clear hgr
    by_cases hlt : j < n
    · obtain ⟨g, rfl⟩ := ha (by omega)
      clear ha
      obtain ⟨y, hy⟩ : ∃ y : Nat, k0 + j * 2 = y := ⟨_, rfl⟩
      have hc0 := hown.cellAt (j * 2) (by omega)
      rw [List.getElem?_eq_getElem (by rw [depV_length, markD_length]; omega)] at hc0
      have hc1 := hown.cellAt (j * 2 + 1) (by omega)
      rw [List.getElem?_eq_getElem (by rw [depV_length, markD_length]; omega)] at hc1
      have hf0 := hown.frozenAt (j * 2)
      have hf1 := hown.frozenAt (j * 2 + 1)
      obtain ⟨hown1, hg1⟩ := hown.stored (j * 2) (.int .i64 (y : Int))
      have hd1 := hown1.cellAt (j * 2 + 1) (by omega)
      rw [List.getElem?_eq_getElem (by rw [List.length_set, depV_length, markD_length]; omega)] at hd1
      have hf2 := hown1.frozenAt (j * 2 + 1)
      obtain ⟨hown2, hg2⟩ := hown1.stored (j * 2 + 1) (.int .i64 ((y + 1 : Nat) : Int))
      have hms := markD_succ k0 n j l
      rw [hy] at hms
      rw [depV_set, hms] at hown2
      have HOWN := Lib.hid hown2
      have HGG := Lib.hid (gb_trans HG.out (gb_trans hg1 hg2))
      have HY := Lib.hid hy
      have j0 : (0 : Int) ≤ (j : Int) := by omega
      have j1 : (j : Int) < (n : Int) := by omega
      rw [hy]
      have hy9 : y + 2 ≤ 1000000002 := by omega
      clear hown hown1 hown2 hg1 hg2 hms hy
      go_wp2_with fail
      go_roundw
      case rel => exact ⟨j + 1, by omega, by have := HY.out; go_num, by go_num, HOWN.out, HGG.out⟩
      case measure => simp [intOf]; omega
    · obtain rfl : j = n := by omega
      rw [markD_all] at hown
      have HOWN := Lib.hid hown
      clear hown
      go_wp2_with fail
      go_ret
      exact ⟨rfl, HOWN.out, HG.out⟩

/-- The same for rows of the call's own. -/
theorem lawsEqOwnD (v1 v2 : Value) (b1 b2 : Nat) (D : List Dep) (w : World) (h1 : w.ownsRow b1 39 2 v1 D.length (depV D)) (h2 : w.ownsRow b2 39 2 v2 D.length (depV D)) (hn : D.length ≤ 1000000000) :
    Calls Try.prog 25 #[v1, v2] w (RetB true w) := by
  obtain ⟨A1, c1, rfl, _⟩ := own_form h1
  obtain ⟨A2, c2, rfl, _⟩ := own_form h2
  exact lawsEqD A1 A2 D.length c1 c2 D w (depAt_own h1 (Nat.le_refl _)) (depAt_own h2 (Nat.le_refl _)) hn
end Go.Proofs.Ytcmlnokfjbglaaa
end

section
namespace Go.Proofs.Ytcmlnokfjbglaaa
open Go.ChangeShapes Go.WideShapes Go.ChangeAt Go.RowKit
set_option linter.unusedVariables false
set_option maxRecDepth 20000

theorem lawsHeldD (A : Option Addr) (n cap B k0 : Nat) (w : World) (h : DepAt w B A n (marksD k0 n)) (hk : k0 + n * 2 ≤ 1000000000) :
    Calls Try.prog 27 #[.slice A n cap, .int .i64 (k0 : Int)] w fun e w' => e = .returned (.int .i64 ((k0 + n * 2 : Nat) : Int)) ∧ w.grownBy w' none := by
  have H0 := Lib.hid h
  clear h
  go_enter Try.func27, Try.ntmps27
  go_wp2_with fail
  go_loopw [1, 5] (fun q i wr => ∃ j m : Nat, j ≤ n ∧ q = .int .i64 ((k0 + j * 2 : Nat) : Int) ∧ i = .int .i64 (j : Int) ∧ wr = w.drewN m) (fun _ i _ => n - (intOf i).toNat)
  case atStart => exact ⟨0, 0, Nat.zero_le _, rfl, rfl, rfl⟩
  case round =>
    obtain ⟨j, m, hj, rfl, rfl, rfl⟩ := hrel
    by_cases hlt : j < n
    · obtain ⟨g, off, rfl, _, hc0, hc1⟩ := H0.out.at j hlt
      rw [marksD_get k0 n j hlt] at hc0 hc1
      obtain ⟨y, hy⟩ : ∃ y : Nat, k0 + j * 2 = y := ⟨_, rfl⟩
      rw [hy] at hc0 hc1
      have HY := Lib.hid hy
      have j0 : (0 : Int) ≤ (j : Int) := by omega
      have j1 : (j : Int) < (n : Int) := by omega
      have hy9 : y + 2 ≤ 1000000002 := by omega
      rw [hy]
      clear hy
      have d0 : (w.drewN m).cell? ⟨g, off + j * 2, none⟩ = some (.int .i64 (y : Int)) := hc0
      have d1 : (w.drewN m).cell? ⟨g, off + j * 2 + 1, none⟩ = some (.int .i64 ((y : Int) + 1)) := hc1
      clear hc0 hc1
      go_wp2_with fail
      go_roundw
      case rel => exact ⟨j + 1, _, by omega, by have := HY.out; go_num, by go_num, rfl⟩
      case measure => simp [intOf]; omega
    · obtain rfl : j = n := by omega
      go_wp2_with fail
      go_ret
      exact ⟨rfl, gb_drewN (gb_refl _ _) _⟩

theorem lawsHeldOwnD (v : Value) (base n k0 : Nat) (w : World) (h : w.ownsRow base 39 2 v n (depV (marksD k0 n))) (hk : k0 + n * 2 ≤ 1000000000) :
    Calls Try.prog 27 #[v, .int .i64 (k0 : Int)] w fun e w' => e = .returned (.int .i64 ((k0 + n * 2 : Nat) : Int)) ∧ w.grownBy w' none := by
  obtain ⟨A, c, rfl, _⟩ := own_form h
  exact lawsHeldD A n c _ k0 w (depAt_own h (Nat.le_refl _)) hk
end Go.Proofs.Ytcmlnokfjbglaaa
end

section
namespace Go.Proofs.Ytcmlnokfjbglaaa
open Go.ChangeShapes Go.WideShapes Go.ChangeAt Go.RowKit
set_option linter.unusedVariables false

def wfD (d : Dep) : Prop := (Lit.int .i64 d.1).wf = true ∧ (Lit.int .i64 d.2).wf = true
theorem choose_dep {n : Nat} {p : Nat → Dep → Prop} (h : ∀ i, i < n → ∃ d, p i d) : ∃ D : List Dep, D.length = n ∧ ∀ i, i < n → p i (atD D i) := by
  induction n with
  | zero => exact ⟨[], rfl, fun i hi => by omega⟩
  | succ n ih =>
    obtain ⟨D, hl, hD⟩ := ih (fun i hi => h i (by omega))
    obtain ⟨d, hd⟩ := h n (by omega)
    refine ⟨D ++ [d], by simp [hl], fun i hi => ?_⟩
    rcases Nat.lt_succ_iff_lt_or_eq.1 hi with h1 | rfl
    · have e : atD (D ++ [d]) i = atD D i := by simp [atD, List.getD_eq_getElem?_getD, List.getElem?_append_left (show i < D.length by omega)]
      rw [e]; exact hD i h1
    · have e : atD (D ++ [d]) i = d := by simp [atD, List.getD_eq_getElem?_getD, ← hl]
      rw [e]; exact hd
section
variable {H : Type} {enc : TypeId × Value → H} {w : World} {spare : Nat → Bool} {held : Bool} {base fuel : Nat}
theorem open_depS {cs : List Value} {y : DataW H × List MemPlace} (hf : DataW.trod enc Try.prog w base spare held fuel 50 cs = some y) :
    ∃ (A : Option Addr) (n cap : Nat) (D : List Dep), cs = [.slice A n cap] ∧ n ≤ cap ∧ cap ≤ maxLen ∧ DepAt w w.heap.size A n D ∧ ∀ d ∈ D, wfD d := by
  rcases Go.Deep.open_slice_pairs Try.underlying50 Try.underlying97 (by kernel_rfl) (by rfl) (by rfl) (by kernel_rfl) (by kernel_rfl) hf with ⟨hcs, _⟩ | ⟨x, len, cap, m, k, V0, V1, D0, D1, P0, P1, hcs, _, hl, hm, hmm, _, hx⟩
  · exact ⟨none, 0, 0, [], hcs, Nat.le_refl _, Nat.zero_le _, DepAt.nil _ _ _, fun d h => by cases h⟩
  · have hlm : len ≤ m := by rw [hmm]; split <;> omega
    obtain ⟨D, hD, hd⟩ := choose_dep (n := len) (p := fun i d => w.cell? (x.add (i * 2)) = some (.int .i64 d.1) ∧ w.cell? (x.add (i * 2 + 1)) = some (.int .i64 d.2) ∧ wfD d) (fun i hi => by
      obtain ⟨h0, h1, h2, h3⟩ := hx i (by omega)
      obtain ⟨a, ea, _, wa⟩ := DataW.trod_int Try.underlying3 h2
      obtain ⟨b, eb, _, wb⟩ := DataW.trod_int Try.underlying3 h3
      simp at ea eb
      exact ⟨(a, b), by rw [h0, ea], by rw [h1, eb], wa, wb⟩)
    refine ⟨some x, len, cap, D, hcs, hl, hm, ⟨hD, fun hn => ?_⟩, fun d hdm => ?_⟩
    · obtain ⟨b, off, spot⟩ := x
      have hc := (hd 0 hn).1
      have hspot : spot = none := by simpa [Addr.add] using World.cell?_spot hc
      subst hspot
      have hlt : b < w.heap.size := by simpa [Addr.add] using World.block_lt_of_cell? _ _ hc
      refine ⟨b, off, rfl, hlt, fun j hj => ?_⟩
      obtain ⟨h1, h2, _⟩ := hd j hj
      rw [Addr.add_lit] at h1 h2
      exact ⟨h1, h2⟩
    · obtain ⟨j, hj, rfl⟩ := atD_ex hdm
      exact (hd j (by omega)).2.2
end
end Go.Proofs.Ytcmlnokfjbglaaa
end

section
namespace Go.Proofs.Ytcmlnokfjbglaaa
open Go.ChangeShapes Go.WideShapes Go.ChangeAt Go.RowKit
set_option linter.unusedVariables false

/-- A new list of numbers, and whether there is one. -/
def NewR (L : List Int) (b : Bool) (w : World) (e : Ending) (w' : World) : Prop :=
  ∃ v, e = .returned (.tuple #[v, .bool b]) ∧ w'.ownsRow w.heap.size 3 1 v L.length (intsV L) ∧ Below w.heap.size w w'
theorem ret_pair {v : Value} {a b : Bool} (h : a = b) : Ending.returned (.tuple #[v, .bool a]) = Ending.returned (.tuple #[v, .bool b]) := by rw [h]
theorem own_nil {L : List Int} (h : L = []) (w : World) (base : Nat) : w.ownsRow base 3 1 (.slice none 0 0) L.length (intsV L) := by subst h; exact World.ownsRow_nil _ _ _ _
/-- An empty list of the function's own. -/
theorem own_empty {L : List Int} (h : L = []) {w wr : World} (hb : Below w.heap.size w wr) : (wr.alloc (.cells #[] 3)).ownsRow w.heap.size 3 1 (.slice (some ⟨wr.heap.size, 0, none⟩) 0 0) L.length (intsV L) ∧ Below w.heap.size w (wr.alloc (.cells #[] 3)) := by
  subst h
  exact ⟨World.ownsRow_made (base := w.heap.size) (e := 3) (size := 1) wr #[] 0 hb.size (by decide) rfl, hb.alloc hb.size _⟩
theorem own_cap {w : World} {base : Nat} {e : TypeId} {size n cap : Nat} {A : Option Addr} {xs : List Value} (h : w.ownsRow base e size (.slice A n cap) n xs) : n ≤ cap ∧ cap ≤ maxLen := by
  rcases h.2 with ⟨h1, h2⟩ | ⟨g, cap', cur, h1, _, _, h2, h3, _⟩
  · simp only [Value.slice.injEq] at h1
    obtain ⟨_, _, rfl⟩ := h1
    exact ⟨by omega, Nat.zero_le _⟩
  · simp only [Value.slice.injEq] at h1
    obtain ⟨_, _, rfl⟩ := h1
    exact ⟨h2, h3⟩
/-- The first k numbers of a slice. -/
theorem IntAt.take {w : World} {B n : Nat} {A : Option Addr} {L : List Int} (h : IntAt w B A n L) {k : Nat} (hk : k ≤ n) : IntAt w B A k (L.take k) := ⟨by have := h.1; simp; omega, fun h0 => by
  obtain ⟨b, off, hA, hb, hc⟩ := h.2 (by omega)
  refine ⟨b, off, hA, hb, fun j x hx => hc j x ?_⟩
  rcases Nat.lt_or_ge j k with h1 | h1
  · rwa [List.getElem?_take_of_lt h1] at hx
  · rw [List.getElem?_eq_none (by simp; omega)] at hx; cases hx⟩
end Go.Proofs.Ytcmlnokfjbglaaa
end

section
namespace Go.Proofs.Ytcmlnokfjbglaaa
open Go.ChangeShapes Go.WideShapes Go.ChangeAt Go.RowKit
set_option linter.unusedVariables false

theorem depAt_news {w : World} {B n b off : Nat} {D : List Dep} (h : DepAt w B (some ⟨b, off, none⟩) n D) : ∀ j u, (depV D)[j]? = some u → w.cell? ((⟨b, off, none⟩ : Addr).add j) = some u := fun j u hu => by
  have hj := (List.getElem?_eq_some_iff.1 hu).1
  rw [depV_length] at hj
  have hl := h.1
  obtain ⟨b', off', hA, _, hc⟩ := h.2 (by omega)
  obtain ⟨rfl, rfl⟩ : b = b' ∧ off = off' := by injection hA with h1; injection h1 with h2 h3; exact ⟨h2, h3⟩
  obtain ⟨h1, h2⟩ := depV_at D (j / 2) (by omega)
  obtain ⟨c1, c2⟩ := hc (j / 2) (by omega)
  rw [Addr.add_lit]
  rcases (show j = j / 2 * 2 ∨ j = j / 2 * 2 + 1 by omega) with e | e
  · rw [e, h1] at hu
    rw [e]
    exact c1.trans hu
  · rw [e, h2] at hu
    rw [e]
    exact c2.trans hu
theorem src_deps {w : World} {B n : Nat} {A : Option Addr} {D : List Dep} (h : DepAt w B A n D) (c : Nat) : Src Try.prog 2 24 (.slice A n c) n (depV D) w := by
  have hl := h.1
  rcases Nat.eq_zero_or_pos n with h0 | h0
  · subst h0
    obtain rfl : D = [] := List.eq_nil_of_length_eq_zero hl
    cases A with
    | none => exact Src.ofNil w Try.underlying24 c
    | some a => exact Src.ofSlice w Try.underlying24 a 0 c [] rfl (fun j u hu => by cases hu) (fun u hu => by cases hu)
  · obtain ⟨b, off, rfl, _⟩ := h.2 h0
    exact Src.ofSlice w Try.underlying24 _ n c (depV D) (by rw [depV_length, hl]) (depAt_news h) (depV_one1 D)
theorem run_app_nothingD (w : World) (ty : TypeId) (base : Option Addr) (sLen sCap : Nat) (hle : sLen ≤ sCap) (x : Value) (i0 : TypeInfo) (hi : Try.prog.info? 39 = some i0) (h1 : i0.size = 2) (hs : Src Try.prog 2 24 x 0 [] w) :
    (Builtin.append_ #[24, 24] ty #[.slice base sLen sCap, x]).run Try.prog w = .ok (.slice base sLen sCap) w := by
  have hc := hs.cells
  rw [← h1] at hc
  cases base <;> simp [Builtin.append_, run_underlying Try.underlying24, sizeOf, typeInfo, hi, hs.len, hle, hc, storeCells]
theorem run_app_ownD (w : World) (ty : TypeId) (i0 : TypeInfo) (hi : Try.prog.info? 39 = some i0) (hz0 : i0.zero = some (.agg #[.int .i64 0, .int .i64 0])) (hz1 : i0.size = 2) (hz2 : i0.bytes = 16)
    (base n m c B : Nat) (A : Option Addr) (X L : List Dep) (v : Value) (hown : w.ownsRow base 39 2 v n (depV X)) (h : DepAt w B A m L) (hm : n + m ≤ 4000000001) (hb : base ≤ w.heap.size) :
    ∃ v' w', (Builtin.append_ #[24, 24] ty #[v, .slice A m c]).run Try.prog w = .ok v' w' ∧ w'.ownsRow base 39 2 v' (n + m) (depV (X ++ L)) ∧ w.grownBy w' v.ownBlock := by
  have hl := h.1
  rcases Nat.eq_zero_or_pos m with h0 | h0
  · subst h0
    obtain rfl : L = [] := List.eq_nil_of_length_eq_zero hl
    obtain ⟨A', c', rfl, _⟩ := own_form hown
    exact ⟨_, _, run_app_nothingD w ty A' n c' (own_cap hown).1 _ i0 hi hz1 (src_deps h c), by rw [List.append_nil]; exact hown, gb_refl _ _⟩
  · obtain ⟨b, off, rfl, _⟩ := h.2 h0
    obtain ⟨v', w', h1, h2, h3, _⟩ := run_append_own (P := Try.prog) w base 24 ty 39 i0 (.agg #[.int .i64 0, .int .i64 0]) 2 16 Try.underlying24 hi hz0 hz1 hz2 rfl (by decide) v n (depV X) hown ⟨b, off, none⟩ m c (depV L)
      (by rw [depV_length, hl]) (depAt_news h) (depV_one1 L) (by unfold maxLen; omega) (by omega) hb
    exact ⟨v', w', h1, by rw [depV_append]; exact h2, h3⟩
theorem wpList_app_ownD {ops : Array Oper} {rest : List Oper} {o : Oper} {a : Act} {Q : Exit → Act → World → Prop} (w : World) (hgd : o.guard = none) (s x : Operand)
    (ho : o.op = .call { callee := .builtin .append, args := #[s, x], argTypes := #[24, 24] })
    (i0 : TypeInfo) (hi : Try.prog.info? 39 = some i0) (hz0 : i0.zero = some (.agg #[.int .i64 0, .int .i64 0])) (hz1 : i0.size = 2) (hz2 : i0.bytes = 16)
    (base n m c B : Nat) (A : Option Addr) (X L : List Dep) (v : Value) (hs : a.eval s = v) (hx : a.eval x = .slice A m c) (hown : w.ownsRow base 39 2 v n (depV X)) (h : DepAt w B A m L) (hm : n + m ≤ 4000000001) (hb : base ≤ w.heap.size)
    (hk : ∀ v' w', w'.ownsRow base 39 2 v' (n + m) (depV (X ++ L)) → w.grownBy w' v.ownBlock → wpList Try.prog ops Q rest (a.put o.dst v') w') : wpList Try.prog ops Q (o :: rest) a w := by
  refine wpList_plain hgd fun K hK => ?_
  obtain ⟨v', w', hr, h2, h3⟩ := run_app_ownD w o.type i0 hi hz0 hz1 hz2 base n m c B A X L v hown h hm hb
  unfold Oper.wp execOp
  simp only [ho, resolve, invoke, builtin, Sem.run_bind, Sem.run_pure, Result.andThen_ok, List.map_toArray, List.map_cons, List.map_nil, hs, hx, hr]
  exact hK _ _ (hk v' w' h2 h3)
/-- The same onto a list that is not nil: nor is what it becomes. -/
theorem wpList_app_ownN {ops : Array Oper} {rest : List Oper} {o : Oper} {a : Act} {Q : Exit → Act → World → Prop} (w : World) (hgd : o.guard = none) (s x : Operand)
    (ho : o.op = .call { callee := .builtin .append, args := #[s, x], argTypes := #[24, 24] })
    (i0 : TypeInfo) (hi : Try.prog.info? 39 = some i0) (hz0 : i0.zero = some (.agg #[.int .i64 0, .int .i64 0])) (hz1 : i0.size = 2) (hz2 : i0.bytes = 16)
    (base n m c B g c0 : Nat) (A : Option Addr) (X L : List Dep) (hs : a.eval s = .slice (some ⟨g, 0, none⟩) n c0) (hx : a.eval x = .slice A m c) (hown : w.ownsRow base 39 2 (.slice (some ⟨g, 0, none⟩) n c0) n (depV X)) (h : DepAt w B A m L) (hm : n + m ≤ 4000000001) (hb : base ≤ w.heap.size)
    (hk : ∀ g' c' w', w'.ownsRow base 39 2 (.slice (some ⟨g', 0, none⟩) (n + m) c') (n + m) (depV (X ++ L)) → w.grownBy w' (some g) → wpList Try.prog ops Q rest (a.put o.dst (.slice (some ⟨g', 0, none⟩) (n + m) c')) w') : wpList Try.prog ops Q (o :: rest) a w := by
  refine wpList_plain hgd fun K hK => ?_
  have key : ∃ g' c' w', (Builtin.append_ #[24, 24] o.type #[.slice (some ⟨g, 0, none⟩) n c0, .slice A m c]).run Try.prog w = .ok (.slice (some ⟨g', 0, none⟩) (n + m) c') w' ∧ w'.ownsRow base 39 2 (.slice (some ⟨g', 0, none⟩) (n + m) c') (n + m) (depV (X ++ L)) ∧ w.grownBy w' (some g) := by
    rcases Nat.eq_zero_or_pos m with h0 | h0
    · subst h0
      obtain rfl : L = [] := List.eq_nil_of_length_eq_zero h.1
      exact ⟨g, c0, w, run_app_nothingD w o.type _ n c0 (own_cap hown).1 _ i0 hi hz1 (src_deps h c), by rw [List.append_nil]; exact hown, gb_refl _ _⟩
    · obtain ⟨v', w', hr, h2, h3⟩ := run_app_ownD w o.type i0 hi hz0 hz1 hz2 base n m c B A X L _ hown h hm hb
      obtain ⟨A', c', rfl, hA⟩ := own_form h2
      obtain ⟨g', rfl⟩ := hA (by omega)
      exact ⟨g', c', w', hr, h2, h3⟩
  obtain ⟨g', c', w', hr, h2, h3⟩ := key
  unfold Oper.wp execOp
  simp only [ho, resolve, invoke, builtin, Sem.run_bind, Sem.run_pure, Result.andThen_ok, List.map_toArray, List.map_cons, List.map_nil, hs, hx, hr]
  exact hK _ _ (hk g' c' w' h2 h3)
/-- An empty row of the call's own. -/
theorem own_madeD (w : World) {base : Nat} (hb : base ≤ w.heap.size) : (w.alloc (.cells #[] 39)).ownsRow base 39 2 (.slice (some ⟨w.heap.size, 0, none⟩) 0 0) 0 (depV []) :=
  World.ownsRow_made (base := base) (e := 39) (size := 2) w #[] 0 hb (by decide) rfl
theorem own_emptyD {D : List Dep} (h : D = []) {w wr : World} (hb : Below w.heap.size w wr) : (wr.alloc (.cells #[] 39)).ownsRow w.heap.size 39 2 (.slice (some ⟨wr.heap.size, 0, none⟩) 0 0) D.length (depV D) ∧ Below w.heap.size w (wr.alloc (.cells #[] 39)) := by
  subst h
  exact ⟨own_madeD wr hb.size, hb.alloc hb.size _⟩
/-- The first k elements of a slice, and those behind. -/
theorem DepAt.take {w : World} {B n : Nat} {A : Option Addr} {D : List Dep} (h : DepAt w B A n D) {k : Nat} (hk : k ≤ n) : DepAt w B A k (D.take k) := ⟨by have := h.1; simp; omega, fun h0 => by
  obtain ⟨b, off, hA, hb, hc⟩ := h.2 (by omega)
  refine ⟨b, off, hA, hb, fun j hj => ?_⟩
  have e : atD (D.take k) j = atD D j := by simp [atD, List.getD_eq_getElem?_getD, List.getElem?_take_of_lt hj]
  rw [e]
  exact hc j (by omega)⟩
theorem DepAt.drop {w : World} {B n b off : Nat} {D : List Dep} (h : DepAt w B (some ⟨b, off, Option.none⟩) n D) {k : Nat} (hk : k ≤ n) : DepAt w B (some ⟨b, off + k * 2, Option.none⟩) (n - k) (D.drop k) := ⟨by have := h.1; simp; omega, fun h0 => by
  obtain ⟨b', off', hA, hb, hc⟩ := h.2 (by omega)
  obtain ⟨rfl, rfl⟩ : b = b' ∧ off = off' := by injection hA with h1; injection h1 with h2 h3; exact ⟨h2, h3⟩
  refine ⟨b, off + k * 2, rfl, hb, fun j hj => ?_⟩
  have e : atD (D.drop k) j = atD D (k + j) := by simp [atD, List.getD_eq_getElem?_getD, List.getElem?_drop]
  rw [e, show off + k * 2 + j * 2 = off + (k + j) * 2 by omega]
  exact hc (k + j) (by omega)⟩
theorem gb_made {w w' : World} {t : TypeId} (h : (w.alloc (.cells #[] t)).grownBy w' (some w.heap.size)) : w.grownBy w' none :=
  ⟨h.os, h.tape, h.output, by have := h.size; simp at this; omega, fun i hi _ => (h.block i (by simp; omega) (fun e => by have := Option.some.inj e; omega)).trans (Below.heap_alloc w _ i hi)⟩
end Go.Proofs.Ytcmlnokfjbglaaa
end

section
namespace Go.Proofs.Ytcmlnokfjbglaaa
open Go.ChangeShapes Go.WideShapes Go.ChangeAt Go.RowKit
set_option linter.unusedVariables false
set_option maxRecDepth 20000

theorem gb_drP {a b : World} {row : Option Nat} (h : a.drew.grownBy b row) : a.grownBy b row := ⟨h.os, h.tape, h.output, h.size, h.block⟩
theorem specLess (a b : Dep) (w : World) : Calls Try.prog 97 #[.agg #[.int .i64 a.1, .int .i64 a.2], .agg #[.int .i64 b.1, .int .i64 b.2]] w (RetB (ltD a b) w) := by
  obtain ⟨r, hr⟩ : ∃ r, ltD a b = r := ⟨_, rfl⟩
  rw [hr]
  obtain ⟨a1, a2⟩ := a
  obtain ⟨b1, b2⟩ := b
  have hr2 : r = decide (a1 < b1 ∨ a1 = b1 ∧ a2 < b2) := hr.symm
  clear hr
  by_cases h1 : a1 < b1
  · have HR := Lib.hid (show r = true by rw [hr2]; exact decide_eq_true (.inl h1))
    clear hr2
    go_enter Try.func97, Try.ntmps97
    go_wp2_with fail
    go_ret
    exact ⟨ret_bool (by rw [HR.out]), gb_alloc (gb_alloc (gb_refl _ _) _) _⟩
  · by_cases h2 : a1 = b1
    · by_cases h3 : a2 < b2
      · have HR := Lib.hid (show r = true by rw [hr2]; exact decide_eq_true (.inr ⟨h2, h3⟩))
        clear hr2
        go_enter Try.func97, Try.ntmps97
        go_wp2_with fail
        go_ret
        exact ⟨ret_bool (by rw [HR.out]), gb_alloc (gb_alloc (gb_refl _ _) _) _⟩
      · have HR := Lib.hid (show r = false by rw [hr2]; exact decide_eq_false (by omega))
        clear hr2
        go_enter Try.func97, Try.ntmps97
        go_wp2_with fail
        go_ret
        exact ⟨ret_bool (by rw [HR.out]), gb_alloc (gb_alloc (gb_refl _ _) _) _⟩
    · have HR := Lib.hid (show r = false by rw [hr2]; exact decide_eq_false (by omega))
      clear hr2
      go_enter Try.func97, Try.ntmps97
      go_wp2_with fail
      go_ret
      exact ⟨ret_bool (by rw [HR.out]), gb_alloc (gb_alloc (gb_refl _ _) _) _⟩
/-- A list of the caller's own that is not nil, or a new one. -/
def PutN (base : Nat) (D : List Dep) (w : World) (e : Ending) (w' : World) : Prop :=
  ∃ g c, e = .returned (.slice (some ⟨g, 0, none⟩) D.length c) ∧ w'.ownsRow base 39 2 (.slice (some ⟨g, 0, none⟩) D.length c) D.length (depV D) ∧ w.grownBy w' none
/-- From the end, the place k has been reached. -/
def downD (D : List Dep) (d : Dep) (k : Nat) : Prop := k ≤ D.length ∧ ∀ t, k ≤ t → t < D.length → ltD d (atD D t) = true
theorem down_put {D : List Dep} (hD : ascD D) {d : Dep} {k : Nat} (h : downD D d k) (h1 : ∀ m, k = m + 1 → ltD d (atD D m) = false ∧ atD D m ≠ d) : insD D d = D.take k ++ d :: D.drop k := by
  have key : ∀ t, t < k → ltD (atD D t) d = true := fun t ht => by
    obtain ⟨m, rfl⟩ : ∃ m, k = m + 1 := ⟨k - 1, by omega⟩
    obtain ⟨h2, h3⟩ := h1 m rfl
    have h4 : ltD (atD D m) d = true := ltD_tri h2 (fun e => h3 e.symm)
    rcases Nat.lt_or_eq_of_le (Nat.le_of_lt_succ ht) with h5 | h5
    · exact ltD_trans (asc_at hD h5 (by have := h.1; omega)) h4
    · rw [h5]; exact h4
  have hlow : lowN D d = k := lowN_of h.1 key (fun hk => ltD_asymm (h.2 k (Nat.le_refl _) hk))
  have hn : d ∉ D := fun hd => by
    obtain ⟨h2, h3⟩ := (there_iff hD).1 hd
    rw [hlow] at h2 h3
    have := h.2 k (Nat.le_refl _) h2
    rw [h3, ltD_irrefl] at this
    cases this
  rw [ins_new hn, putD, hlow]
theorem down_next {D : List Dep} {d : Dep} {m : Nat} (h : downD D d (m + 1)) (h1 : ltD d (atD D m) = true) : downD D d m :=
  ⟨by have := h.1; omega, fun t h2 h3 => by
    rcases Nat.lt_or_eq_of_le h2 with h4 | h4
    · exact h.2 t h4 h3
    · rw [← h4]; exact h1⟩

theorem run_neD {x d : Dep} (h : x ≠ d) (w : World) : (binOp .eql 39 (.agg #[.int .i64 x.1, .int .i64 x.2]) (.agg #[.int .i64 d.1, .int .i64 d.2])).run Try.prog w = .ok (.bool false) w := by
  have hst : Try.prog.stoodInHeld 39 = false := by kernel_rfl
  by_cases h1 : x.1 = d.1
  · have h2 : ¬ x.2 = d.2 := fun e => h (Prod.ext h1 e)
    simp [go_sem, Try.underlying39, Try.underlying3, hst, h1, h2]
  · simp [go_sem, Try.underlying39, Try.underlying3, hst, h1]
theorem gb_un {a b : World} {m : Nat} {row : Option Nat} (h : (a.drewN m).grownBy b row) : a.grownBy b row := ⟨h.os, h.tape, h.output, h.size, h.block⟩
theorem own_castD {w : World} {base n k : Nat} {v : Value} {X Y : List Value} (h : w.ownsRow base 39 2 v n X) (hk : n = k) (hx : X = Y) : w.ownsRow base 39 2 v k Y := by subst hk; subst hx; exact h
theorem put_ret {R : List Dep} {w w4 : World} {base B : Nat} {v : Value} {k : Nat} {X : List Dep} (hR : R = X) (hk : k = X.length) (h0 : 0 < k) (hb : base ≤ B) (ho : w4.ownsRow B 39 2 v k (depV X)) (hg : w.grownBy w4 none) : PutN base R w (.returned v) w4 := by
  subst hR
  subst hk
  obtain ⟨A, c, rfl, hA⟩ := own_form ho
  obtain ⟨g, rfl⟩ := hA h0
  exact ⟨g, c, rfl, own_less ho hb, hg⟩

theorem put_there {D R : List Dep} {w w4 : World} {base n g cap : Nat} (hR : D = R) (hl : D.length = n) (hbase : base ≤ w.heap.size) (ho : w.ownsRow base 39 2 (.slice (some ⟨g, 0, none⟩) n cap) n (depV D)) (hg : w.grownBy w4 none) : PutN base R w (.returned (.slice (some ⟨g, 0, none⟩) n cap)) w4 := by
  subst hR
  subst hl
  exact ⟨g, cap, rfl, own_none ho hg, hg⟩
theorem specPut (base n g cap : Nat) (D : List Dep) (d : Dep) (hD : ascD D) (w : World) (h : w.ownsRow base 39 2 (.slice (some ⟨g, 0, none⟩) n cap) n (depV D)) (hbase : base ≤ w.heap.size) (hn : n ≤ 2000000000) :
    Calls Try.prog 63 #[.slice (some ⟨g, 0, none⟩) n cap, .agg #[.int .i64 d.1, .int .i64 d.2]] w (PutN base (insD D d) w) := by
  obtain ⟨i0, hi, hz0, hz1, hz2⟩ := info_parts info_dep
  have hl := own_dep_length h
  have HL := Lib.hid hl
  have HO := Lib.hid h
  have HI := Lib.hid (depAt_own h (Nat.le_refl w.heap.size))
  obtain ⟨hcap, hcap2⟩ := own_cap h
  have c63 : cap ≤ 9223372036854775807 := by unfold maxLen at hcap2; omega
  have BG := Lib.hid (boxD_gb d w)
  have BB := Lib.hid (boxD_blk d w)
  have HLT := Lib.hid (fun (a b : Dep) w => specLess a b w)
  have HDP := Lib.hid (fun k (hk : downD D d k) h1 => down_put hD hk h1)
  have HTH := Lib.hid (fun (m : Nat) (hm : m < n) (e : atD D m = d) => ins_there (D := D) (d := d) (by rw [← e]; exact atD_mem (by omega)))
  obtain ⟨R, hR⟩ : ∃ R, insD D d = R := ⟨_, rfl⟩
  rw [hR] at HDP HTH
  rw [hR]
  have b2 := Lib.hid (show ∀ u ∈ [Value.int .i64 d.1, Value.int .i64 d.2], u.oneCell' = true by simp [Value.oneCell'])
  clear h hD hR hcap2
  go_enter Try.func63, Try.ntmps63
  go_wp2_with fail
  go_loopw [5] (fun i wr => ∃ k : Nat, i = .int .i64 (k : Int) ∧ k ≤ n ∧ downD D d k ∧ (boxD d w).grownBy wr none) (fun i _ => (intOf i).toNat)
  case atStart => exact ⟨n, rfl, Nat.le_refl _, ⟨by omega, fun t h1 h2 => by omega⟩, gb_refl _ _⟩
  case round =>
    obtain ⟨k, rfl, hk, hs, hg⟩ := hrel
    have HS := Lib.hid hs
    have HG := Lib.hid hg
    have HS1 := Lib.hid (show w.heap.size + 1 ≤ wr.heap.size by have := hg.size; rw [boxD, alloc_size] at this; exact this)
    have bb := BB.out.grown hg (by simp)
    have t0 : wr.cell? ⟨w.heap.size, 0, none⟩ = some (.int .i64 d.1) := bb.cell 0
    have t1 : wr.cell? ⟨w.heap.size, 1, none⟩ = some (.int .i64 d.2) := bb.cell 1
    have BBR := Lib.hid bb
    have HAIR := Lib.hid (HI.out.none (Nat.le_refl _) (gb_trans BG.out hg))
    have HK := Lib.hid hk
    clear bb hs hg
    by_cases h0 : k = 0
    · have H0 := Lib.hid h0
      have hd : decide (0 < k) = false := decide_eq_false (by omega)
      have HR := Lib.hid (HDP.out k HS.out (fun m e => by omega))
      have HAI := HAIR
      have HSW := Lib.hid (show w.heap.size ≤ wr.heap.size by have := HS1.out; omega)
      have BBW := BBR
      have GWS := Lib.hid (gb_refl wr none)
      clear h0 BBR HAIR
      by_cases hck : cap = k
      · have HCK := Lib.hid (show n - k = 0 by omega)
        have HDN := Lib.hid (show D.drop k = [] by rw [List.drop_eq_nil_iff]; omega)
        go_wp2_with fail
        go_quiet (fail)
        go_wp2_with fail
        go_quiet (fail)
        go_wp2_with (first
          | (at_builtin; refine wpList_app_ownD _ rfl (.tmp 34) (.tmp 37) rfl i0 hi hz0 hz1 hz2 wr.heap.size 0 k _ w.heap.size _ [] (D.take k) _ rfl rfl (own_madeD _ (Nat.le_refl _)) ((HAI.out.none HSW.out (gb_alloc (gb_drewN (gb_refl _ none) _) _)).take HK.out) (by omega) (by simp) ?_; intro v1 wA ho2 hg2; have HG3 := Lib.hid (gb_un (gb_made hg2)); have HS2 := Lib.hid HG3.out.size; have bb2 := BBW.out.grown HG3.out (by simp); have t2 : wA.cell? ⟨w.heap.size, 0, none⟩ = some (.int .i64 d.1) := bb2.cell 0; have t3 : wA.cell? ⟨w.heap.size, 1, none⟩ = some (.int .i64 d.2) := bb2.cell 1; have O2 := Lib.hid (own_castD ho2 (Nat.zero_add k) (congrArg depV (List.nil_append _))); clear ho2 hg2 bb2)
          | (at_builtin; refine wpList_append_own _ rfl (.tmp 39) (.tmp 41) 24 rfl wr.heap.size 39 i0 (.agg #[.int .i64 0, .int .i64 0]) 2 16 Try.underlying24 hi hz0 hz1 hz2 rfl (by decide) _ k _ rfl (O2.out.alloc _) ⟨wA.heap.size, 0, none⟩ 1 1 [.int .i64 d.1, .int .i64 d.2] rfl rfl (World.news_of_block (cs := #[.int .i64 d.1, .int .i64 d.2]) (t := 39) (fr := (0, 0)) (heap_alloc_new wA _)) b2.out (by unfold maxLen; omega) (by omega) (by have := HS2.out; simp; omega) ?_; intro v3 wB ho3 hg3 _; have B3 := Lib.hid (show Below wr.heap.size wr wB from (((gb_below_none HG3.out (Nat.le_refl _)).alloc HS2.out _).grown hg3 (by have := HS2.out; simp; omega) (fun q hq => (O2.out.lt q hq).1))); have O3 := Lib.hid (own_castD ho3 rfl (show depV (D.take k) ++ [Value.int .i64 d.1, Value.int .i64 d.2] = depV (D.take k ++ [d]) by rw [depV_append]; rfl)); clear ho3 hg3 t2 t3)
          | (at_builtin; refine wpList_app_ownD _ rfl (.tmp 43) (.tmp 46) rfl i0 hi hz0 hz1 hz2 wr.heap.size (k + 1) (n - k) _ w.heap.size _ (D.take k ++ [d]) (D.drop k) _ rfl rfl O3.out (by first | (have h5 := (HAI.out.below (B3.out.mono HSW.out)).drop HK.out; rw [Nat.zero_add] at h5; exact h5) | (have h5 := HDN.out; simp only [HCK.out, h5]; exact DepAt.nil _ _ _)) (by omega) B3.out.size ?_; intro v4 wC ho4 hg4; have O4 := Lib.hid ho4; have G4 := Lib.hid (gb_of_below (B3.out.grown hg4 B3.out.size (fun q hq => (O3.out.lt q hq).1)) none); clear ho4 hg4))
        go_ret
        exact put_ret (HR.out.trans (by simp)) (by simp [HL.out]; omega) (by omega) (Nat.le_trans hbase HSW.out) O4.out (gb_trans (gb_trans BG.out HG.out) (gb_trans GWS.out G4.out))
      · have HCK := Lib.hid hck
        have HDN := Lib.hid hck
        go_wp2_with fail
        go_quiet (fail)
        go_wp2_with fail
        go_quiet (fail)
        go_wp2_with (first
          | (at_builtin; refine wpList_app_ownD _ rfl (.tmp 34) (.tmp 37) rfl i0 hi hz0 hz1 hz2 wr.heap.size 0 k _ w.heap.size _ [] (D.take k) _ rfl rfl (own_madeD _ (Nat.le_refl _)) ((HAI.out.none HSW.out (gb_alloc (gb_drewN (gb_refl _ none) _) _)).take HK.out) (by omega) (by simp) ?_; intro v1 wA ho2 hg2; have HG3 := Lib.hid (gb_un (gb_made hg2)); have HS2 := Lib.hid HG3.out.size; have bb2 := BBW.out.grown HG3.out (by simp); have t2 : wA.cell? ⟨w.heap.size, 0, none⟩ = some (.int .i64 d.1) := bb2.cell 0; have t3 : wA.cell? ⟨w.heap.size, 1, none⟩ = some (.int .i64 d.2) := bb2.cell 1; have O2 := Lib.hid (own_castD ho2 (Nat.zero_add k) (congrArg depV (List.nil_append _))); clear ho2 hg2 bb2)
          | (at_builtin; refine wpList_append_own _ rfl (.tmp 39) (.tmp 41) 24 rfl wr.heap.size 39 i0 (.agg #[.int .i64 0, .int .i64 0]) 2 16 Try.underlying24 hi hz0 hz1 hz2 rfl (by decide) _ k _ rfl (O2.out.alloc _) ⟨wA.heap.size, 0, none⟩ 1 1 [.int .i64 d.1, .int .i64 d.2] rfl rfl (World.news_of_block (cs := #[.int .i64 d.1, .int .i64 d.2]) (t := 39) (fr := (0, 0)) (heap_alloc_new wA _)) b2.out (by unfold maxLen; omega) (by omega) (by have := HS2.out; simp; omega) ?_; intro v3 wB ho3 hg3 _; have B3 := Lib.hid (show Below wr.heap.size wr wB from (((gb_below_none HG3.out (Nat.le_refl _)).alloc HS2.out _).grown hg3 (by have := HS2.out; simp; omega) (fun q hq => (O2.out.lt q hq).1))); have O3 := Lib.hid (own_castD ho3 rfl (show depV (D.take k) ++ [Value.int .i64 d.1, Value.int .i64 d.2] = depV (D.take k ++ [d]) by rw [depV_append]; rfl)); clear ho3 hg3 t2 t3)
          | (at_builtin; refine wpList_app_ownD _ rfl (.tmp 43) (.tmp 46) rfl i0 hi hz0 hz1 hz2 wr.heap.size (k + 1) (n - k) _ w.heap.size _ (D.take k ++ [d]) (D.drop k) _ rfl rfl O3.out (by first | (have h5 := (HAI.out.below (B3.out.mono HSW.out)).drop HK.out; rw [Nat.zero_add] at h5; exact h5) | (have h5 := HDN.out; simp only [HCK.out, h5]; exact DepAt.nil _ _ _)) (by omega) B3.out.size ?_; intro v4 wC ho4 hg4; have O4 := Lib.hid ho4; have G4 := Lib.hid (gb_of_below (B3.out.grown hg4 B3.out.size (fun q hq => (O3.out.lt q hq).1)) none); clear ho4 hg4))
        go_ret
        exact put_ret (HR.out.trans (by simp)) (by simp [HL.out]; omega) (by omega) (Nat.le_trans hbase HSW.out) O4.out (gb_trans (gb_trans BG.out HG.out) (gb_trans GWS.out G4.out))
    · obtain ⟨m, hm⟩ : ∃ m, k = m + 1 := ⟨k - 1, by omega⟩
      obtain ⟨_, _, hA, _, c0, c1⟩ := HAIR.out.at m (by omega)
      injection hA with hA
      injection hA with hA1 hA2
      subst hA1
      subst hA2
      rw [Nat.zero_add] at c0 c1
      obtain ⟨x, hx⟩ : ∃ x, atD D m = x := ⟨_, rfl⟩
      rw [hx] at c0 c1
      have HX := Lib.hid hx
      have HM := Lib.hid hm
      have m0 : (0 : Int) ≤ (m : Int) := by omega
      have m1 : (m : Int) < (n : Int) := by omega
      have e2 : IntKind.i64.wrap ((k : Int) - 1) = (m : Int) := by rw [IntWalk.i64_in _ (by omega)]; omega
      have hd : decide (0 < k) = true := decide_eq_true (by omega)
      have hpos : (0 : Int) < (k : Int) := by omega
      cases hlt : ltD d x with
      | true =>
        have HL2 := Lib.hid (fun w => show Calls Try.prog 97 #[.agg #[.int .i64 d.1, .int .i64 d.2], .agg #[.int .i64 x.1, .int .i64 x.2]] w (RetB true w) from hlt ▸ HLT.out d x w)
        have HNX := Lib.hid (show downD D d m from down_next (by have := HS.out; rw [HM.out] at this; exact this) (by rw [HX.out]; exact hlt))
        clear hx hlt h0 hm
        go_wp2_with fail
        go_region_held3 (fun w' => w'.cell? ⟨w.heap.size, 0, none⟩ = some (.int .i64 d.1) ∧ w'.cell? ⟨w.heap.size, 1, none⟩ = some (.int .i64 d.2) ∧ w'.cell? ⟨g, m * 2, none⟩ = some (.int .i64 x.1) ∧ w'.cell? ⟨g, m * 2 + 1, none⟩ = some (.int .i64 x.2))
          (first | exact ⟨t0, t1, c0, c1⟩ | exact ⟨d0, d1, d2, d3⟩ | fail)
          (first
            | (go_at_call 97; (with_reducible refine (HL2.out _).mono ?_); rintro e w4 ⟨rfl, hg4⟩; have h4 := gb_drP hg4; have d0 := h4.cell t0 (by simp); have d1 := h4.cell t1 (by simp); have d2 := h4.cell c0 (by simp); have d3 := h4.cell c1 (by simp); have G4 := Lib.hid (gb_trans HG.out h4); clear h4 hg4)
            | fail)
        all_goals
          clear d0 d1 d2 d3 t0 t1 c0 c1 hd hpos e2
          go_wp2_with fail
          go_roundw
          case rel => exact ⟨m, by have := HM.out; go_num, by have := HM.out; omega, HNX.out, G4.out⟩
          case measure => have := HM.out; simp [intOf]; omega
      | false =>
        by_cases hxd : x = d
        · subst hxd
          have HL2 := Lib.hid (fun w => show Calls Try.prog 97 #[.agg #[.int .i64 x.1, .int .i64 x.2], .agg #[.int .i64 x.1, .int .i64 x.2]] w (RetB false w) from hlt ▸ HLT.out x x w)
          have HR := Lib.hid (HTH.out m (by omega) hx)
          clear hx hlt h0 hm
          go_wp2_with fail
          go_region_held3 (fun w' => w'.cell? ⟨w.heap.size, 0, none⟩ = some (.int .i64 x.1) ∧ w'.cell? ⟨w.heap.size, 1, none⟩ = some (.int .i64 x.2) ∧ w'.cell? ⟨g, m * 2, none⟩ = some (.int .i64 x.1) ∧ w'.cell? ⟨g, m * 2 + 1, none⟩ = some (.int .i64 x.2))
            (first | exact ⟨t0, t1, c0, c1⟩ | exact ⟨d0, d1, d2, d3⟩ | fail)
            (first
              | (go_at_call 97; (with_reducible refine (HL2.out _).mono ?_); rintro e w4 ⟨rfl, hg4⟩; have h4 := gb_drP hg4; have d0 := h4.cell t0 (by simp); have d1 := h4.cell t1 (by simp); have d2 := h4.cell c0 (by simp); have d3 := h4.cell c1 (by simp); have G4 := Lib.hid (gb_trans BG.out (gb_trans HG.out h4)); clear h4 hg4)
              | fail)
          all_goals
            clear t0 t1 c0 c1
            go_wp2_with fail
            go_quiet (fail)
            go_wp2_with fail
            go_ret
            exact put_there HR.out.symm HL.out hbase HO.out (gb_drewN G4.out _)
        · have HL2 := Lib.hid (fun w => show Calls Try.prog 97 #[.agg #[.int .i64 d.1, .int .i64 d.2], .agg #[.int .i64 x.1, .int .i64 x.2]] w (RetB false w) from hlt ▸ HLT.out d x w)
          have heq := run_neD hxd
          have HR := Lib.hid (HDP.out k HS.out (fun m' e => by obtain rfl : m' = m := (by omega); exact ⟨by rw [hx]; exact hlt, by rw [hx]; exact hxd⟩))
          clear hx hlt h0 hxd hm
          go_wp2_with fail
          go_region_held3 (fun w' => w'.cell? ⟨w.heap.size, 0, none⟩ = some (.int .i64 d.1) ∧ w'.cell? ⟨w.heap.size, 1, none⟩ = some (.int .i64 d.2) ∧ w'.cell? ⟨g, m * 2, none⟩ = some (.int .i64 x.1) ∧ w'.cell? ⟨g, m * 2 + 1, none⟩ = some (.int .i64 x.2))
            (first | exact ⟨t0, t1, c0, c1⟩ | exact ⟨d0, d1, d2, d3⟩ | fail)
            (first
              | (go_at_call 97; (with_reducible refine (HL2.out _).mono ?_); rintro e w4 ⟨rfl, hg4⟩; have h4 := gb_drP hg4; have d0 := h4.cell t0 (by simp); have d1 := h4.cell t1 (by simp); have d2 := h4.cell c0 (by simp); have d3 := h4.cell c1 (by simp); have G4 := Lib.hid h4; clear h4 hg4)
              | fail)
          all_goals
            have HAI := Lib.hid (HAIR.out.none (by have := HS1.out; omega) G4.out)
            have HSW := Lib.hid (show w.heap.size ≤ w4.heap.size by have := HS1.out; have := G4.out.size; omega)
            have BBW := Lib.hid (BBR.out.grown G4.out (by simp))
            have GWS := G4
            clear t0 t1 c0 c1
            by_cases hck : cap = k
            · have HCK := Lib.hid (show n - k = 0 by omega)
              have HDN := Lib.hid (show D.drop k = [] by rw [List.drop_eq_nil_iff]; omega)
              go_wp2_with fail
              go_quiet (fail)
              go_wp2_with (first
                | (at_builtin; refine wpList_app_ownD _ rfl (.tmp 34) (.tmp 37) rfl i0 hi hz0 hz1 hz2 w4.heap.size 0 k _ w.heap.size _ [] (D.take k) _ rfl rfl (own_madeD _ (Nat.le_refl _)) ((HAI.out.none HSW.out (gb_alloc (gb_drewN (gb_refl _ none) _) _)).take HK.out) (by omega) (by simp) ?_; intro v1 wA ho2 hg2; have HG3 := Lib.hid (gb_un (gb_made hg2)); have HS2 := Lib.hid HG3.out.size; have bb2 := BBW.out.grown HG3.out (by simp); have t2 : wA.cell? ⟨w.heap.size, 0, none⟩ = some (.int .i64 d.1) := bb2.cell 0; have t3 : wA.cell? ⟨w.heap.size, 1, none⟩ = some (.int .i64 d.2) := bb2.cell 1; have O2 := Lib.hid (own_castD ho2 (Nat.zero_add k) (congrArg depV (List.nil_append _))); clear ho2 hg2 bb2)
                | (at_builtin; refine wpList_append_own _ rfl (.tmp 39) (.tmp 41) 24 rfl w4.heap.size 39 i0 (.agg #[.int .i64 0, .int .i64 0]) 2 16 Try.underlying24 hi hz0 hz1 hz2 rfl (by decide) _ k _ rfl (O2.out.alloc _) ⟨wA.heap.size, 0, none⟩ 1 1 [.int .i64 d.1, .int .i64 d.2] rfl rfl (World.news_of_block (cs := #[.int .i64 d.1, .int .i64 d.2]) (t := 39) (fr := (0, 0)) (heap_alloc_new wA _)) b2.out (by unfold maxLen; omega) (by omega) (by have := HS2.out; simp; omega) ?_; intro v3 wB ho3 hg3 _; have B3 := Lib.hid (show Below w4.heap.size w4 wB from (((gb_below_none HG3.out (Nat.le_refl _)).alloc HS2.out _).grown hg3 (by have := HS2.out; simp; omega) (fun q hq => (O2.out.lt q hq).1))); have O3 := Lib.hid (own_castD ho3 rfl (show depV (D.take k) ++ [Value.int .i64 d.1, Value.int .i64 d.2] = depV (D.take k ++ [d]) by rw [depV_append]; rfl)); clear ho3 hg3 t2 t3)
                | (at_builtin; refine wpList_app_ownD _ rfl (.tmp 43) (.tmp 46) rfl i0 hi hz0 hz1 hz2 w4.heap.size (k + 1) (n - k) _ w.heap.size _ (D.take k ++ [d]) (D.drop k) _ rfl rfl O3.out (by first | (have h5 := (HAI.out.below (B3.out.mono HSW.out)).drop HK.out; rw [Nat.zero_add] at h5; exact h5) | (have h5 := HDN.out; simp only [HCK.out, h5]; exact DepAt.nil _ _ _)) (by omega) B3.out.size ?_; intro v4 wC ho4 hg4; have O4 := Lib.hid ho4; have G4 := Lib.hid (gb_of_below (B3.out.grown hg4 B3.out.size (fun q hq => (O3.out.lt q hq).1)) none); clear ho4 hg4))
              go_ret
              exact put_ret (HR.out.trans (by simp)) (by simp [HL.out]; omega) (by omega) (Nat.le_trans hbase HSW.out) O4.out (gb_trans (gb_trans BG.out HG.out) (gb_trans GWS.out G4.out))
            · have HCK := Lib.hid hck
              have HDN := Lib.hid hck
              go_wp2_with fail
              go_quiet (fail)
              go_wp2_with (first
                | (at_builtin; refine wpList_app_ownD _ rfl (.tmp 34) (.tmp 37) rfl i0 hi hz0 hz1 hz2 w4.heap.size 0 k _ w.heap.size _ [] (D.take k) _ rfl rfl (own_madeD _ (Nat.le_refl _)) ((HAI.out.none HSW.out (gb_alloc (gb_drewN (gb_refl _ none) _) _)).take HK.out) (by omega) (by simp) ?_; intro v1 wA ho2 hg2; have HG3 := Lib.hid (gb_un (gb_made hg2)); have HS2 := Lib.hid HG3.out.size; have bb2 := BBW.out.grown HG3.out (by simp); have t2 : wA.cell? ⟨w.heap.size, 0, none⟩ = some (.int .i64 d.1) := bb2.cell 0; have t3 : wA.cell? ⟨w.heap.size, 1, none⟩ = some (.int .i64 d.2) := bb2.cell 1; have O2 := Lib.hid (own_castD ho2 (Nat.zero_add k) (congrArg depV (List.nil_append _))); clear ho2 hg2 bb2)
                | (at_builtin; refine wpList_append_own _ rfl (.tmp 39) (.tmp 41) 24 rfl w4.heap.size 39 i0 (.agg #[.int .i64 0, .int .i64 0]) 2 16 Try.underlying24 hi hz0 hz1 hz2 rfl (by decide) _ k _ rfl (O2.out.alloc _) ⟨wA.heap.size, 0, none⟩ 1 1 [.int .i64 d.1, .int .i64 d.2] rfl rfl (World.news_of_block (cs := #[.int .i64 d.1, .int .i64 d.2]) (t := 39) (fr := (0, 0)) (heap_alloc_new wA _)) b2.out (by unfold maxLen; omega) (by omega) (by have := HS2.out; simp; omega) ?_; intro v3 wB ho3 hg3 _; have B3 := Lib.hid (show Below w4.heap.size w4 wB from (((gb_below_none HG3.out (Nat.le_refl _)).alloc HS2.out _).grown hg3 (by have := HS2.out; simp; omega) (fun q hq => (O2.out.lt q hq).1))); have O3 := Lib.hid (own_castD ho3 rfl (show depV (D.take k) ++ [Value.int .i64 d.1, Value.int .i64 d.2] = depV (D.take k ++ [d]) by rw [depV_append]; rfl)); clear ho3 hg3 t2 t3)
                | (at_builtin; refine wpList_app_ownD _ rfl (.tmp 43) (.tmp 46) rfl i0 hi hz0 hz1 hz2 w4.heap.size (k + 1) (n - k) _ w.heap.size _ (D.take k ++ [d]) (D.drop k) _ rfl rfl O3.out (by first | (have h5 := (HAI.out.below (B3.out.mono HSW.out)).drop HK.out; rw [Nat.zero_add] at h5; exact h5) | (have h5 := HDN.out; simp only [HCK.out, h5]; exact DepAt.nil _ _ _)) (by omega) B3.out.size ?_; intro v4 wC ho4 hg4; have O4 := Lib.hid ho4; have G4 := Lib.hid (gb_of_below (B3.out.grown hg4 B3.out.size (fun q hq => (O3.out.lt q hq).1)) none); clear ho4 hg4))
              go_ret
              exact put_ret (HR.out.trans (by simp)) (by simp [HL.out]; omega) (by omega) (Nat.le_trans hbase HSW.out) O4.out (gb_trans (gb_trans BG.out HG.out) (gb_trans GWS.out G4.out))
end Go.Proofs.Ytcmlnokfjbglaaa
end

section
namespace Go.Proofs.Ytcmlnokfjbglaaa
open Go.ChangeShapes Go.WideShapes Go.ChangeAt Go.RowKit
set_option linter.unusedVariables false

theorem specIn (x lo hi : Int) (w : World) :
    Calls Try.prog 96 #[.int .i64 x, .int .i64 lo, .int .i64 hi] w fun e w' => e = .returned (.bool (decide (lo ≤ x ∧ x ≤ hi))) ∧ w = w' := by
  by_cases h1 : lo ≤ x
  all_goals
    go_enter Try.func96, Try.ntmps96
    go_wp2
    all_goals go_ret
    all_goals exact ⟨ret_bool (by simp <;> omega), rfl⟩

theorem specInV (x lo hi : Int) (b : Bool) (hb : decide (lo ≤ x ∧ x ≤ hi) = b) (w : World) :
    Calls Try.prog 96 #[.int .i64 x, .int .i64 lo, .int .i64 hi] w fun e w' => e = .returned (.bool b) ∧ w = w' := hb ▸ specIn x lo hi w

theorem box_blk {w w1 : World} {T : TypeId} {cs : Array Value} (h : (w.alloc (.cells cs T)).grownBy w1 none) : Blk w1 w.heap.size T cs := (Blk.new w T cs).grown h (by simp)
theorem box_gb {w w1 : World} {o : Obj} (h : (w.alloc o).grownBy w1 none) : w.grownBy w1 none := gb_trans (gb_alloc (gb_refl _ _) _) h

end Go.Proofs.Ytcmlnokfjbglaaa
end

section
namespace Go.Proofs.Ytcmlnokfjbglaaa
open Go.ChangeShapes Go.WideShapes Go.ChangeAt Go.RowKit
set_option linter.unusedVariables false
set_option maxRecDepth 20000

set_option maxHeartbeats 1600000 in
theorem specDependsOk (A : Option Addr) (n cap : Nat) (D : List Dep) (w : World) (h : DepAt w w.heap.size A n D) (hn : n ≤ 4000000000) :
    Calls Try.prog 62 #[.slice A n cap] w (RetB (okD D) w) := by
  have HI := Lib.hid h
  have hl := h.1
  have HR := Lib.hid (fun (x : Int) (b : Bool) (hb : decide (0 ≤ x ∧ x ≤ 127) = b) w => specInV x 0 127 b hb w)
  have HC := Lib.hid (fun (a b : Dep) w => specLess a b w)
  have HYES := Lib.hid (okD_iff (D := D)).2
  have HNO := Lib.hid (fun k hk (h : stepD D k = false) => okD_not (D := D) (k := k) hk h)
  obtain ⟨b, hb⟩ : ∃ b, okD D = b := ⟨_, rfl⟩
  rw [hb] at HYES HNO
  rw [hb]
  clear h hb
  go_enter Try.func62, Try.ntmps62
  go_wp2_with fail
  go_loopw [3] (fun i wr => ∃ k : Nat, i = .int .i64 (k : Int) ∧ k ≤ n ∧ (∀ j, j < k → stepD D j = true) ∧ w.grownBy wr none) (fun i _ => n - (intOf i).toNat)
  case atStart => exact ⟨0, rfl, Nat.zero_le _, fun j hj => by omega, gb_refl _ _⟩
  case round =>
    obtain ⟨k, rfl, hk, hs, hg⟩ := hrel
    have HS := Lib.hid hs
    have HG := Lib.hid hg
    have hai := HI.out.none (Nat.le_refl _) hg
    clear hs hg
    by_cases hlt : k < n
    · obtain ⟨b1, off, rfl, hb1, c0, c1⟩ := hai.at k hlt
      obtain ⟨x, hx⟩ : ∃ x, atD D k = x := ⟨_, rfl⟩
      rw [hx] at c0 c1
      have HAI := Lib.hid hai
      have k0 : (0 : Int) ≤ (k : Int) := by omega
      have k1 : (k : Int) < (n : Int) := by omega
      have hin : inD x = (decide (0 ≤ x.1 ∧ x.1 ≤ 127) && decide (0 ≤ x.2 ∧ x.2 ≤ 127)) := by
        unfold inD
        rw [← Bool.decide_and]
        exact decide_eq_decide.2 (by omega)
      clear hai
      cases hi1 : decide (0 ≤ x.1 ∧ x.1 ≤ 127) with
      | false =>
        have hst : stepD D k = false := by unfold stepD; rw [hx, hin, hi1, Bool.false_and, Bool.false_and]
        have HB := Lib.hid (HNO.out k (by omega) hst)
        have HR1 := Lib.hid (fun w => HR.out x.1 false hi1 w)
        clear hin hi1 hst hx
        go_wp2_with fail
        go_quiet (first
          | (with_reducible refine Calls.quiet_of_same (still_of (HR1.out _))))
        go_wp2_with fail
        go_ret
        exact ⟨ret_bool HB.out.symm, gb_drewN HG.out _⟩
      | true =>
        cases hi2 : decide (0 ≤ x.2 ∧ x.2 ≤ 127) with
        | false =>
          have hst : stepD D k = false := by unfold stepD; rw [hx, hin, hi1, hi2, Bool.true_and, Bool.false_and]
          have HB := Lib.hid (HNO.out k (by omega) hst)
          have HR1 := Lib.hid (fun w => HR.out x.1 true hi1 w)
          have HR2 := Lib.hid (fun w => HR.out x.2 false hi2 w)
          clear hin hi1 hi2 hst hx
          go_wp2_with fail
          go_quiet (first
            | (with_reducible refine Calls.quiet_of_same (still_of (HR1.out _)))
            | (with_reducible refine Calls.quiet_of_same (still_of (HR2.out _))))
          go_wp2_with fail
          go_ret
          exact ⟨ret_bool HB.out.symm, gb_drewN HG.out _⟩
        | true =>
          have HR1 := Lib.hid (fun w => HR.out x.1 true hi1 w)
          have HR2 := Lib.hid (fun w => HR.out x.2 true hi2 w)
          have hinx : inD x = true := by rw [hin, hi1, hi2]; rfl
          by_cases h0 : k = 0
          · have hst : stepD D k = true := by unfold stepD; rw [hx, hinx, h0]; rfl
            have HST := Lib.hid hst
            have H0 := Lib.hid h0
            have hd : decide (0 < k) = false := decide_eq_false (by omega)
            clear hin hinx hi1 hi2 hst hx h0
            go_wp2_with fail
            go_quiet (first
              | (with_reducible refine Calls.quiet_of_same (still_of (HR1.out _)))
              | (with_reducible refine Calls.quiet_of_same (still_of (HR2.out _))))
            go_wp2_with fail
            go_roundw
            case rel => exact ⟨k + 1, by go_num, by omega, fun j hj => by have h0 := H0.out; obtain rfl : j = k := (by omega); exact HST.out, gb_drewN HG.out _⟩
            case measure => simp [intOf]; omega
          · obtain ⟨m, hm⟩ : ∃ m, k = m + 1 := ⟨k - 1, by omega⟩
            obtain ⟨_, _, hA, _, e0, e1⟩ := HAI.out.at m (by omega)
            injection hA with hA
            injection hA with hA1 hA2
            subst hA1
            subst hA2
            obtain ⟨y, hy⟩ : ∃ y, atD D m = y := ⟨_, rfl⟩
            rw [hy] at e0 e1
            have m0 : (0 : Int) ≤ (m : Int) := by omega
            have m1 : (m : Int) < (n : Int) := by omega
            have e2 : IntKind.i64.wrap ((k : Int) - 1) = (m : Int) := by rw [IntWalk.i64_in _ (by omega)]; omega
            have hd : decide (0 < k) = true := decide_eq_true (by omega)
            have hpos : (0 : Int) < (k : Int) := by omega
            have HM := Lib.hid hm
            obtain ⟨r, hr⟩ : ∃ r, ltD y x = r := ⟨_, rfl⟩
            have HC2 := Lib.hid (fun w => show Calls _ _ _ w (RetB r w) from hr ▸ HC.out y x w)
            have hstep : stepD D k = r := by
              have e : (decide (k = 0)) = false := decide_eq_false h0
              unfold stepD
              rw [hx, hinx, e, Bool.false_or, Bool.true_and, show k - 1 = m by omega, hy, hr]
            cases r with
            | true =>
              have HST := Lib.hid hstep
              clear hin hinx hi1 hi2 hx hy hr hm hstep h0
              go_wp2_with fail
              go_region_held3 (fun w' => w'.cell? ⟨b1, off + k * 2, none⟩ = some (.int .i64 x.1) ∧ w'.cell? ⟨b1, off + k * 2 + 1, none⟩ = some (.int .i64 x.2) ∧ w'.cell? ⟨b1, off + m * 2, none⟩ = some (.int .i64 y.1) ∧ w'.cell? ⟨b1, off + m * 2 + 1, none⟩ = some (.int .i64 y.2))
                (first | exact ⟨c0, c1, e0, e1⟩ | exact ⟨d0, d1, d2, d3⟩ | fail)
                (first
                  | (go_at_call 97; (with_reducible refine (HC2.out _).mono ?_); rintro e w5 ⟨rfl, hg5⟩; have h5 := gb_drP hg5; have d0 := h5.cell c0 (by simp); have d1 := h5.cell c1 (by simp); have d2 := h5.cell e0 (by simp); have d3 := h5.cell e1 (by simp); have G5 := Lib.hid (gb_trans HG.out h5); clear h5 hg5)
                  | (go_at_call 96; (with_reducible refine (HR1.out _).mono ?_); rintro e w6 ⟨rfl, rfl⟩)
                  | (go_at_call 96; (with_reducible refine (HR2.out _).mono ?_); rintro e w7 ⟨rfl, rfl⟩)
                  | fail)
              all_goals
                clear d0 d1 d2 d3 c0 c1 e0 e1
                go_wp2_with fail
                go_roundw
                case rel => exact ⟨k + 1, by go_num, by omega, fun j hj => by rcases Nat.lt_succ_iff_lt_or_eq.1 hj with h | h; exact HS.out j h; rw [h]; exact HST.out, G5.out⟩
                case measure => simp [intOf]; omega
            | false =>
              have HB := Lib.hid (HNO.out k (by omega) hstep)
              clear hin hinx hi1 hi2 hx hy hr hm hstep h0
              go_wp2_with fail
              go_region_held3 (fun w' => w'.cell? ⟨b1, off + k * 2, none⟩ = some (.int .i64 x.1) ∧ w'.cell? ⟨b1, off + k * 2 + 1, none⟩ = some (.int .i64 x.2) ∧ w'.cell? ⟨b1, off + m * 2, none⟩ = some (.int .i64 y.1) ∧ w'.cell? ⟨b1, off + m * 2 + 1, none⟩ = some (.int .i64 y.2))
                (first | exact ⟨c0, c1, e0, e1⟩ | exact ⟨d0, d1, d2, d3⟩ | fail)
                (first
                  | (go_at_call 97; (with_reducible refine (HC2.out _).mono ?_); rintro e w5 ⟨rfl, hg5⟩; have h5 := gb_drP hg5; have d0 := h5.cell c0 (by simp); have d1 := h5.cell c1 (by simp); have d2 := h5.cell e0 (by simp); have d3 := h5.cell e1 (by simp); have G5 := Lib.hid (gb_trans HG.out h5); clear h5 hg5)
                  | (go_at_call 96; (with_reducible refine (HR1.out _).mono ?_); rintro e w6 ⟨rfl, rfl⟩)
                  | (go_at_call 96; (with_reducible refine (HR2.out _).mono ?_); rintro e w7 ⟨rfl, rfl⟩)
                  | fail)
              all_goals
                clear d0 d1 d2 d3 c0 c1 e0 e1
                go_wp2_with fail
                go_ret
                exact ⟨ret_bool HB.out.symm, G5.out⟩
    · obtain rfl : k = n := by omega
      have HB := Lib.hid (HYES.out (fun j hj => HS.out j (by omega)))
      clear hai
      go_wp2_with fail
      go_ret
      exact ⟨ret_bool HB.out.symm, HG.out⟩
end Go.Proofs.Ytcmlnokfjbglaaa
end

section
namespace Go.Proofs.Ytcmlnokfjbglaaa
open Go.ChangeShapes Go.WideShapes Go.ChangeAt Go.RowKit
set_option linter.unusedVariables false
set_option maxRecDepth 20000

/-- A list that is not nil, in a block of the call's own from B on. -/
def DvAt (B : Nat) (w0 : World) (D : List Dep) (v : Value) (wr : World) : Prop :=
  (∃ g c, v = .slice (some ⟨g, 0, none⟩) D.length c) ∧ wr.ownsRow B 39 2 v D.length (depV D) ∧ B ≤ w0.heap.size ∧ Below B w0 wr
section
variable {B : Nat} {w0 wr w' : World} {D D' : List Dep} {v v' : Value}
theorem DvAt.gb (h : DvAt B w0 D v wr) (hg : wr.grownBy w' none) : DvAt B w0 D v w' := ⟨h.1, own_none h.2.1 hg, h.2.2.1, below_gb h.2.2.2 h.2.2.1 hg⟩
theorem DvAt.put {e : Ending} (h : DvAt B w0 D v wr) (hp : PutN B D' wr e w') : ∃ v', e = .returned v' ∧ DvAt B w0 D' v' w' ∧ wr.grownBy w' none := by
  obtain ⟨g, c, rfl, ho, hg⟩ := hp
  exact ⟨_, rfl, ⟨⟨g, c, rfl⟩, ho, h.2.2.1, below_gb h.2.2.2 h.2.2.1 hg⟩, hg⟩
theorem DvAt.start (w0 : World) (hB : B ≤ w0.heap.size) : DvAt B w0 [] (.slice (some ⟨w0.heap.size, 0, none⟩) 0 0) (w0.alloc (.cells #[] 39)) :=
  ⟨⟨_, _, rfl⟩, own_madeD w0 hB, hB, (Below.refl _ _).alloc hB _⟩
theorem DvAt.le (h : DvAt B w0 D v wr) : B ≤ wr.heap.size := Nat.le_trans h.2.2.1 h.2.2.2.size
end
end Go.Proofs.Ytcmlnokfjbglaaa
end

section
namespace Go.Proofs.Ytcmlnokfjbglaaa
open Go.ChangeShapes Go.WideShapes Go.ChangeAt Go.RowKit
set_option linter.unusedVariables false
set_option maxRecDepth 20000

theorem specMerge (A A2 : Option Addr) (n cap n2 c2 : Nat) (D E : List Dep) (w : World) (h : DepAt w w.heap.size A n D) (h2 : DepAt w w.heap.size A2 n2 E) (hn : n ≤ 900000000) (hn2 : n2 ≤ 900000000) :
    Calls Try.prog 23 #[.slice A n cap, .slice A2 n2 c2] w (NewD (mergeD D E) w) := by
  obtain ⟨i0, hi, hz0, hz1, hz2⟩ := info_parts info_dep
  have hl := h.1
  have hl2 := h2.1
  have HI := Lib.hid h
  have HI2 := Lib.hid h2
  have HB0 := Lib.hid (show Below w.heap.size w (w.alloc (.cells #[] 39)) from (Below.refl _ _).alloc (Nat.le_refl _) _)
  have HOK := Lib.hid (fun (w' : World) (h' : DepAt w' w'.heap.size A n D) => specDependsOk A n cap D w' h' (by omega))
  have HOK2 := Lib.hid (fun (w' : World) (h' : DepAt w' w'.heap.size A2 n2 E) => specDependsOk A2 n2 c2 E w' h' (by omega))
  have HAT := Lib.hid (fun (w' : World) (hb : Below w.heap.size w w') => (h.below hb).more hb.size)
  have HAT2 := Lib.hid (fun (w' : World) (hb : Below w.heap.size w w') => (h2.below hb).more hb.size)
  clear h h2
  cases hok : okD D with
  | false =>
    rw [merge_no1 hok]
    rw [hok] at HOK
    clear hok
    go_enter Try.func23, Try.ntmps23
    go_wp2_with (at_builtin; refine wpList_app_ownN _ rfl (.tmp 7) (.tmp 8) rfl i0 hi hz0 hz1 hz2 w.heap.size 0 n cap w.heap.size _ _ A [] D rfl rfl (own_madeD w (Nat.le_refl _)) (HI.out.below HB0.out) (by omega) (by simp) ?_; intro g1 q1 w1 ho1 hg1; have X1 := Lib.hid (show DvAt w.heap.size w D (.slice (some ⟨g1, 0, none⟩) (0 + n) q1) w1 from ⟨⟨g1, q1, by rw [Nat.zero_add, hl]⟩, by rw [Nat.zero_add] at ho1; rw [Nat.zero_add, hl]; exact ho1, Nat.le_refl _, gb_below_none (gb_made hg1) (Nat.le_refl _)⟩); clear ho1 hg1)
    refine (HOK.out _ (HAT.out _ X1.out.2.2.2)).mono ?_
    rintro e w2 ⟨rfl, hg2⟩
    have X2 := Lib.hid (X1.out.gb hg2)
    clear hg2
    go_wp2_with fail
    go_ret
    exact ⟨_, rfl, own_emptyD rfl X2.out.2.2.2⟩
  | true =>
    rw [hok] at HOK
    cases hok2 : okD E with
    | false =>
      rw [merge_no2 hok2]
      rw [hok2] at HOK2
      clear hok hok2
      go_enter Try.func23, Try.ntmps23
      go_wp2_with (at_builtin; refine wpList_app_ownN _ rfl (.tmp 7) (.tmp 8) rfl i0 hi hz0 hz1 hz2 w.heap.size 0 n cap w.heap.size _ _ A [] D rfl rfl (own_madeD w (Nat.le_refl _)) (HI.out.below HB0.out) (by omega) (by simp) ?_; intro g1 q1 w1 ho1 hg1; have X1 := Lib.hid (show DvAt w.heap.size w D (.slice (some ⟨g1, 0, none⟩) (0 + n) q1) w1 from ⟨⟨g1, q1, by rw [Nat.zero_add, hl]⟩, by rw [Nat.zero_add] at ho1; rw [Nat.zero_add, hl]; exact ho1, Nat.le_refl _, gb_below_none (gb_made hg1) (Nat.le_refl _)⟩); clear ho1 hg1)
      refine (HOK.out _ (HAT.out _ X1.out.2.2.2)).mono ?_
      rintro e w2 ⟨rfl, hg2⟩
      have X2 := Lib.hid (X1.out.gb hg2)
      clear hg2
      go_wp2_with fail
      refine (HOK2.out _ (HAT2.out _ X2.out.2.2.2)).mono ?_
      rintro e w3 ⟨rfl, hg3⟩
      have X3 := Lib.hid (X2.out.gb hg3)
      clear hg3
      go_wp2_with fail
      go_ret
      exact ⟨_, rfl, own_emptyD rfl X3.out.2.2.2⟩
    | true =>
      have HM := Lib.hid (merge_yes hok hok2)
      have HASC := Lib.hid (okD_asc hok)
      rw [hok2] at HOK2
      obtain ⟨M, hM⟩ : ∃ M, mergeD D E = M := ⟨_, rfl⟩
      rw [hM] at HM
      rw [hM]
      clear hok hok2 hM
      go_enter Try.func23, Try.ntmps23
      go_wp2_with (at_builtin; refine wpList_app_ownN _ rfl (.tmp 7) (.tmp 8) rfl i0 hi hz0 hz1 hz2 w.heap.size 0 n cap w.heap.size _ _ A [] D rfl rfl (own_madeD w (Nat.le_refl _)) (HI.out.below HB0.out) (by omega) (by simp) ?_; intro g1 q1 w1 ho1 hg1; have X1 := Lib.hid (show DvAt w.heap.size w (insAll D (E.take 0)) (.slice (some ⟨g1, 0, none⟩) (0 + n) q1) w1 from ⟨⟨g1, q1, by rw [Nat.zero_add, ← hl]; rfl⟩, by rw [Nat.zero_add] at ho1; rw [Nat.zero_add]; show w1.ownsRow _ _ _ _ D.length (depV D); rw [hl]; exact ho1, Nat.le_refl _, gb_below_none (gb_made hg1) (Nat.le_refl _)⟩); clear ho1 hg1)
      refine (HOK.out _ (HAT.out _ X1.out.2.2.2)).mono ?_
      rintro e w2 ⟨rfl, hg2⟩
      have X2 := Lib.hid (X1.out.gb hg2)
      clear hg2
      go_wp2_with fail
      refine (HOK2.out _ (HAT2.out _ X2.out.2.2.2)).mono ?_
      rintro e w3 ⟨rfl, hg3⟩
      have X3 := Lib.hid (X2.out.gb hg3)
      clear hg3
      go_wp2_with fail
      go_loopw [5, 6] (fun v i wr => ∃ k : Nat, i = .int .i64 (k : Int) ∧ k ≤ n2 ∧ DvAt w.heap.size w (insAll D (E.take k)) v wr) (fun _ i _ => n2 - (intOf i).toNat)
      case atStart => exact ⟨0, rfl, Nat.zero_le _, by have h := X3.out; rw [Nat.zero_add] at h; exact h⟩
      case round =>
        obtain ⟨k, rfl, hk, hx⟩ := hrel
        have X4 := Lib.hid hx
        have hai := HI2.out.below hx.2.2.2
        obtain ⟨gv, cv, rfl⟩ := hx.1
        clear hx
        by_cases hlt : k < n2
        · obtain ⟨b1, off, rfl, hb1, c0, c1⟩ := hai.at k hlt
          obtain ⟨x, hx⟩ : ∃ x, atD E k = x := ⟨_, rfl⟩
          have HE := Lib.hid (insAll_take (D := D) (E := E) (k := k) (by omega))
          rw [hx] at c0 c1 HE
          have k0 : (0 : Int) ≤ (k : Int) := by omega
          have k1 : (k : Int) < (n2 : Int) := by omega
          obtain ⟨F, hF⟩ : ∃ F, insAll D (E.take k) = F := ⟨_, rfl⟩
          have hFa : ascD F := by rw [← hF]; exact insAll_asc HASC.out _
          have hFl : F.length ≤ 1800000000 := by
            have := (insAll_length D (E.take k)).1
            rw [hF] at this
            simp at this
            omega
          rw [hF] at X4 HE
          rw [hF]
          have HA := Lib.hid (fun (w' : World) (h : w'.ownsRow w.heap.size 39 2 (.slice (some ⟨gv, 0, none⟩) F.length cv) F.length (depV F)) (hb : w.heap.size ≤ w'.heap.size) => specPut w.heap.size F.length gv cv F x hFa w' h hb (by omega))
          clear hai hx hF hFa hFl
          go_wp2_with fail
          refine (HA.out _ X4.out.2.1 X4.out.le).mono ?_
          intro e w5 hp
          rw [← HE.out] at hp
          obtain ⟨v5, rfl, hx5, _⟩ := X4.out.put hp
          have X5 := Lib.hid hx5
          clear hp hx5 c0 c1
          go_wp2_with fail
          go_roundw
          case rel => exact ⟨k + 1, by go_num, by omega, X5.out⟩
          case measure => simp [intOf]; omega
        · obtain rfl : k = n2 := by omega
          have HL := Lib.hid (show E.take k = E by rw [← hl2]; exact List.take_length)
          clear hai
          go_wp2_with fail
          go_ret
          refine ⟨_, rfl, ?_, X4.out.2.2.2⟩
          have h3 := X4.out.2.1
          rw [HM.out]
          rw [HL.out] at h3 ⊢
          exact h3
end Go.Proofs.Ytcmlnokfjbglaaa
end

section
namespace Go.Proofs.Ytcmlnokfjbglaaa
open Go.ChangeShapes Go.WideShapes Go.ChangeAt Go.RowKit
set_option linter.unusedVariables false
set_option maxRecDepth 20000

theorem gb_dr {a b : World} {row : Option Nat} (h : a.drew.grownBy b row) : a.grownBy b row := ⟨h.os, h.tape, h.output, h.size, h.block⟩
theorem cell_more {w : World} {p : Addr} {v : Value} (h : w.cell? p = some v) (o : Obj) : (w.alloc o).cell? p = some v := (gb_alloc (gb_refl w none) o).cell h (by simp)
theorem libNaN (x : Int) (w : World) : Calls Try.prog 111 #[.int .i64 x] w (RetB false w) := by
  go_enter Try.func111, Try.ntmps111
  go_wp2_with fail
  go_ret
  exact ⟨by simp, gb_refl _ _⟩
theorem libCompare (x y : Int) (w : World) : Calls Try.prog 90 #[.int .i64 x, .int .i64 y] w (RetI (cmpI x y) none w) := by
  have N1 := Lib.hid (fun w => libNaN x w)
  have N2 := Lib.hid (fun w => libNaN y w)
  rcases Int.lt_trichotomy x y with h | h | h
  · have hr : cmpI x y = -1 := if_pos h
    have HR := Lib.hid hr
    clear hr
    go_enter Try.func90, Try.ntmps90
    go_wp2_with fail
    refine (N1.out _).mono ?_
    rintro e w1 ⟨rfl, hg1⟩
    have G1 := Lib.hid hg1
    clear hg1
    go_wp2_with fail
    refine (N2.out _).mono ?_
    rintro e w2 ⟨rfl, hg2⟩
    have G2 := Lib.hid (gb_trans G1.out hg2)
    clear hg2
    go_wp2_with fail
    go_ret
    exact ⟨by rw [HR.out]; rfl, G2.out⟩
  · have hr : cmpI x y = 0 := cmpI_zero.2 h
    have HR := Lib.hid hr
    subst h
    clear hr
    go_enter Try.func90, Try.ntmps90
    go_wp2_with fail
    refine (N1.out _).mono ?_
    rintro e w1 ⟨rfl, hg1⟩
    have G1 := Lib.hid hg1
    clear hg1
    go_wp2_with fail
    refine (N2.out _).mono ?_
    rintro e w2 ⟨rfl, hg2⟩
    have G2 := Lib.hid (gb_trans G1.out hg2)
    clear hg2
    go_wp2_with fail
    go_ret
    exact ⟨by rw [HR.out]; rfl, G2.out⟩
  · have hr : cmpI x y = 1 := by unfold cmpI; rw [if_neg (by omega), if_pos h]
    have HR := Lib.hid hr
    have hn : ¬ x < y := by omega
    clear hr
    go_enter Try.func90, Try.ntmps90
    go_wp2_with fail
    refine (N1.out _).mono ?_
    rintro e w1 ⟨rfl, hg1⟩
    have G1 := Lib.hid hg1
    clear hg1
    go_wp2_with fail
    refine (N2.out _).mono ?_
    rintro e w2 ⟨rfl, hg2⟩
    have G2 := Lib.hid (gb_trans G1.out hg2)
    clear hg2
    go_wp2_with fail
    go_ret
    exact ⟨by rw [HR.out]; rfl, G2.out⟩

/-- cmp.Or of two numbers. -/
theorem libOr (g : Nat) (x y : Int) (w : World) (h0 : w.cell? ⟨g, 0, none⟩ = some (.int .i64 x)) (h1 : w.cell? ⟨g, 1, none⟩ = some (.int .i64 y)) :
    Calls Try.prog 89 #[.slice (some ⟨g, 0, none⟩) 2 2] w (RetI (if x ≠ 0 then x else y) none w) := by
  by_cases hx : x = 0
  · subst hx
    by_cases hy : y = 0
    · subst hy
      have H0 := Lib.hid h0
      have H1 := Lib.hid h1
      clear h0 h1
      go_enter Try.func89, Try.ntmps89
      go_wp2_with fail
      go_loopw [8] (fun i wr => ∃ k m : Nat, i = .int .i64 (k : Int) ∧ k ≤ 2 ∧ wr = w.drewN m) (fun i _ => 2 - (intOf i).toNat)
      case atStart => exact ⟨0, 0, rfl, by omega, rfl⟩
      case round =>
        obtain ⟨k, m, rfl, hk, rfl⟩ := hrel
        have e0 : (w.drewN m).cell? ⟨g, 0, none⟩ = some (.int .i64 0) := H0.out
        have e1 : (w.drewN m).cell? ⟨g, 1, none⟩ = some (.int .i64 0) := H1.out
        rcases (show k = 0 ∨ k = 1 ∨ k = 2 by omega) with rfl | rfl | rfl
        · go_wp2_with fail
          go_roundw
          case rel => exact ⟨1, _, rfl, by omega, rfl⟩
          case measure => simp [intOf]
        · go_wp2_with fail
          go_roundw
          case rel => exact ⟨2, _, rfl, by omega, rfl⟩
          case measure => simp [intOf]
        · go_wp2_with fail
          go_ret
          exact ⟨by simp, gb_drewN (gb_refl _ _) _⟩
    · have H0 := Lib.hid h0
      have H1 := Lib.hid h1
      clear h0 h1
      go_enter Try.func89, Try.ntmps89
      go_wp2_with fail
      go_loopw [8] (fun i wr => ∃ k m : Nat, i = .int .i64 (k : Int) ∧ k ≤ 1 ∧ wr = w.drewN m) (fun i _ => 2 - (intOf i).toNat)
      case atStart => exact ⟨0, 0, rfl, by omega, rfl⟩
      case round =>
        obtain ⟨k, m, rfl, hk, rfl⟩ := hrel
        have e0 : (w.drewN m).cell? ⟨g, 0, none⟩ = some (.int .i64 0) := H0.out
        have e1 : (w.drewN m).cell? ⟨g, 1, none⟩ = some (.int .i64 y) := H1.out
        rcases (show k = 0 ∨ k = 1 by omega) with rfl | rfl
        · go_wp2_with fail
          go_roundw
          case rel => exact ⟨1, _, rfl, by omega, rfl⟩
          case measure => simp [intOf]
        · go_wp2_with fail
          go_ret
          exact ⟨by simp, gb_drewN (gb_refl _ _) _⟩
  · have H0 := Lib.hid h0
    have H1 := Lib.hid h1
    clear h0 h1
    go_enter Try.func89, Try.ntmps89
    go_wp2_with fail
    go_loopw [8] (fun i wr => ∃ m : Nat, i = .int .i64 0 ∧ wr = w.drewN m) (fun i _ => 2 - (intOf i).toNat)
    case atStart => exact ⟨0, rfl, rfl⟩
    case round =>
      obtain ⟨m, rfl, rfl⟩ := hrel
      have e0 : (w.drewN m).cell? ⟨g, 0, none⟩ = some (.int .i64 x) := H0.out
      go_wp2_with fail
      go_ret
      exact ⟨by simp, gb_drewN (gb_refl _ _) _⟩

abbrev twoD (a b : Dep) (w : World) : World := (w.alloc (.cells #[.int .i64 a.1, .int .i64 a.2] 39)).alloc (.cells #[.int .i64 b.1, .int .i64 b.2] 39)
theorem twoD_a (a b : Dep) (w : World) : Blk (twoD a b w) w.heap.size 39 #[.int .i64 a.1, .int .i64 a.2] := (Blk.new w 39 #[.int .i64 a.1, .int .i64 a.2]).alloc _
theorem twoD_b (a b : Dep) (w : World) : Blk (twoD a b w) (w.heap.size + 1) 39 #[.int .i64 b.1, .int .i64 b.2] := by
  have h := Blk.new (w.alloc (.cells #[.int .i64 a.1, .int .i64 a.2] 39)) 39 #[.int .i64 b.1, .int .i64 b.2]
  rw [alloc_size] at h
  exact h
theorem twoD_gb (a b : Dep) (w : World) : w.grownBy (twoD a b w) none := gb_alloc (gb_alloc (gb_refl _ _) _) _

theorem or_c0 (w : World) (x y : Value) (t : TypeId) : (w.alloc (.cells #[x, y] t)).cell? ⟨w.heap.size, 0, none⟩ = some x := by rw [World.cell?_alloc_at (w := w) #[x, y] t w.heap.size 0 rfl]; rfl
theorem or_c1 (w : World) (x y : Value) (t : TypeId) : (w.alloc (.cells #[x, y] t)).cell? ⟨w.heap.size, 1, none⟩ = some y := by rw [World.cell?_alloc_at (w := w) #[x, y] t w.heap.size 1 rfl]; rfl
theorem libOrD (a b : Dep) (r : Int) (hr : cmpD a b = r) (w : World) :
    Calls Try.prog 89 #[.slice (some ⟨w.heap.size, 0, none⟩) 2 2] (w.alloc (.cells #[.int .i64 (cmpI a.1 b.1), .int .i64 (cmpI a.2 b.2)] 3)) (RetI r none (w.alloc (.cells #[.int .i64 (cmpI a.1 b.1), .int .i64 (cmpI a.2 b.2)] 3))) := by
  subst hr
  exact libOr w.heap.size (cmpI a.1 b.1) (cmpI a.2 b.2) _ (or_c0 w _ _ _) (or_c1 w _ _ _)
theorem implCompare (a b : Dep) (w : World) : Calls Try.prog 56 #[.agg #[.int .i64 a.1, .int .i64 a.2], .agg #[.int .i64 b.1, .int .i64 b.2]] w (RetI (cmpD a b) none w) := by
  have C1 := Lib.hid (fun w => libCompare a.1 b.1 w)
  have C2 := Lib.hid (fun w => libCompare a.2 b.2 w)
  obtain ⟨r, hr⟩ : ∃ r, cmpD a b = r := ⟨_, rfl⟩
  have CO := Lib.hid (fun (w : World) => libOrD a b r hr w)
  rw [hr]
  clear hr
  have TA := Lib.hid (twoD_a a b w)
  have TB := Lib.hid (twoD_b a b w)
  have TG := Lib.hid (twoD_gb a b w)
  obtain ⟨a1, a2⟩ := a
  obtain ⟨b1, b2⟩ := b
  have a0 : (twoD (a1, a2) (b1, b2) w).cell? ⟨w.heap.size, 0, none⟩ = some (.int .i64 a1) := TA.out.cell 0
  have a3 : (twoD (a1, a2) (b1, b2) w).cell? ⟨w.heap.size, 1, none⟩ = some (.int .i64 a2) := TA.out.cell 1
  have b0 : (twoD (a1, a2) (b1, b2) w).cell? ⟨w.heap.size + 1, 0, none⟩ = some (.int .i64 b1) := TB.out.cell 0
  have b3 : (twoD (a1, a2) (b1, b2) w).cell? ⟨w.heap.size + 1, 1, none⟩ = some (.int .i64 b2) := TB.out.cell 1
  have G0 := Lib.hid (gb_refl (twoD (a1, a2) (b1, b2) w) none)
  obtain ⟨B, hB⟩ : ∃ B, w.heap.size = B := ⟨_, rfl⟩
  rw [hB] at a0 a3 b0 b3
  go_enter Try.func56, Try.ntmps56
  go_wp2_with fail
  go_region_held3 (fun w' => w'.cell? ⟨B, 0, none⟩ = some (.int .i64 a1) ∧ w'.cell? ⟨B, 1, none⟩ = some (.int .i64 a2) ∧ w'.cell? ⟨B + 1, 0, none⟩ = some (.int .i64 b1) ∧ w'.cell? ⟨B + 1, 1, none⟩ = some (.int .i64 b2))
    (first | exact ⟨a0, a3, b0, b3⟩ | exact ⟨d0, d1, d2, d3⟩ | exact ⟨k0, k1, k2, k3⟩ | exact ⟨f0, f1, f2, f3⟩ | exact ⟨cell_more f0 _, cell_more f1 _, cell_more f2 _, cell_more f3 _⟩ | fail)
    (first
      | (go_at_call 90; (with_reducible refine (C1.out _).mono ?_); rintro e w4 ⟨rfl, hg4⟩; have h4 := gb_dr hg4; have d0 := h4.cell a0 (by simp); have d1 := h4.cell a3 (by simp); have d2 := h4.cell b0 (by simp); have d3 := h4.cell b3 (by simp); have G4 := Lib.hid h4; clear h4 hg4)
      | (go_at_call 90; (with_reducible refine (C2.out _).mono ?_); rintro e w5 ⟨rfl, hg5⟩; have h5 := hg5; have f0 := h5.cell d0 (by simp); have f1 := h5.cell d1 (by simp); have f2 := h5.cell d2 (by simp); have f3 := h5.cell d3 (by simp); have G5 := Lib.hid h5; clear h5 hg5)
      | (go_at_call 89; (with_reducible refine (CO.out _).mono ?_); rintro e w6 ⟨rfl, hg6⟩; have k0 := hg6.cell (cell_more f0 _) (by simp); have k1 := hg6.cell (cell_more f1 _) (by simp); have k2 := hg6.cell (cell_more f2 _) (by simp); have k3 := hg6.cell (cell_more f3 _) (by simp); have G6 := Lib.hid hg6; clear hg6)
      | fail)
  all_goals
    have G7 := Lib.hid (gb_trans TG.out (gb_trans G4.out (gb_trans G5.out (gb_trans (gb_alloc (gb_refl _ _) _) G6.out))))
    clear k0 k1 k2 k3 f0 f1 f2 f3 d0 d1 d2 d3 a0 a3 b0 b3 G4 G5 G6
    go_wp2_with fail
    go_ret
    exact ⟨rfl, G7.out⟩
end Go.Proofs.Ytcmlnokfjbglaaa
end

section
namespace Go.Proofs.Ytcmlnokfjbglaaa
open Go.ChangeShapes Go.WideShapes Go.ChangeAt Go.RowKit
set_option linter.unusedVariables false
set_option maxRecDepth 20000

theorem ret_b2 {c b : Bool} (h : c = b) : Ending.returned (.bool c) = Ending.returned (.bool b) := by rw [h]
theorem in_yes {x y z : Int} (h : (z < 128) ↔ (0 ≤ x ∧ x ≤ 127 ∧ 0 ≤ y ∧ y ≤ 127)) : decide (z < 128) = inD (x, y) := decide_eq_decide.2 h
theorem in_no {x y : Int} (h : ¬ (0 ≤ x ∧ x ≤ 127 ∧ 0 ≤ y ∧ y ≤ 127)) : false = inD (x, y) := (inD_no.2 h).symm
theorem implInRange (d : Dep) (w : World) : Calls Try.prog 57 #[.agg #[.int .i64 d.1, .int .i64 d.2]] w (RetB (inD d) w) := by
  obtain ⟨x, y⟩ := d
  obtain ⟨b, hb⟩ : ∃ b, inD (x, y) = b := ⟨_, rfl⟩
  rw [hb]
  have HB := Lib.hid hb
  clear hb
  have BG := Lib.hid (boxD_gb (x, y) w)
  go_enter Try.func57, Try.ntmps57
  go_wp2_with fail
  all_goals
    go_ret
    refine ⟨ret_b2 ?_, BG.out⟩
    rw [← HB.out]
    first
      | exact in_yes (by omega)
      | exact in_no (by omega)

theorem implDependsOk (A : Option Addr) (n cap : Nat) (D : List Dep) (w : World) (h : DepAt w w.heap.size A n D) (hn : n ≤ 4000000000) :
    Calls Try.prog 17 #[.slice A n cap] w (RetB (okD D) w) := by
  have HI := Lib.hid h
  have hl := h.1
  have HR := Lib.hid (fun (a : Dep) w => implInRange a w)
  have HC := Lib.hid (fun (a b : Dep) w => implCompare a b w)
  have HYES := Lib.hid (okD_iff (D := D)).2
  have HNO := Lib.hid (fun k hk (h : stepD D k = false) => okD_not (D := D) (k := k) hk h)
  obtain ⟨b, hb⟩ : ∃ b, okD D = b := ⟨_, rfl⟩
  rw [hb] at HYES HNO
  rw [hb]
  clear h hb
  go_enter Try.func17, Try.ntmps17
  go_wp2_with fail
  go_loopw [7] (fun i wr => ∃ k : Nat, i = .int .i64 (k : Int) ∧ k ≤ n ∧ (∀ j, j < k → stepD D j = true) ∧ w.grownBy wr none) (fun i _ => n - (intOf i).toNat)
  case atStart => exact ⟨0, rfl, Nat.zero_le _, fun j hj => by omega, gb_refl _ _⟩
  case round =>
    obtain ⟨k, rfl, hk, hs, hg⟩ := hrel
    have HS := Lib.hid hs
    have HG := Lib.hid hg
    have hai := HI.out.none (Nat.le_refl _) hg
    clear hs hg
    by_cases hlt : k < n
    · obtain ⟨b1, off, rfl, hb1, c0, c1⟩ := hai.at k hlt
      obtain ⟨x, hx⟩ : ∃ x, atD D k = x := ⟨_, rfl⟩
      rw [hx] at c0 c1
      have HAI := Lib.hid hai
      have k0 : (0 : Int) ≤ (k : Int) := by omega
      have k1 : (k : Int) < (n : Int) := by omega
      clear hai
      cases hin : inD x with
      | false =>
        have hst : stepD D k = false := by unfold stepD; rw [hx, hin, Bool.false_and]
        have HB := Lib.hid (HNO.out k (by omega) hst)
        have HRX := Lib.hid (fun w => hin ▸ HR.out x w)
        clear hin hst hx
        go_wp2_with fail
        refine (HRX.out _).mono ?_
        rintro e w4 ⟨rfl, hg4⟩
        have G4 := Lib.hid (gb_trans HG.out (gb_trans (gb_alloc (gb_refl _ _) _) hg4))
        clear hg4 c0 c1
        go_wp2_with fail
        go_ret
        exact ⟨ret_b2 HB.out.symm, G4.out⟩
      | true =>
        have HRX := Lib.hid (fun w => hin ▸ HR.out x w)
        have BN := Lib.hid (Blk.new wr 39 #[.int .i64 x.1, .int .i64 x.2])
        by_cases h0 : k = 0
        · have hst : stepD D k = true := by unfold stepD; rw [hx, hin, h0]; rfl
          have HST := Lib.hid hst
          have H0 := Lib.hid h0
          have hd : decide (0 < k) = false := decide_eq_false (by omega)
          clear hin hst hx h0
          go_wp2_with fail
          refine (HRX.out _).mono ?_
          rintro e w4 ⟨rfl, hg4⟩
          have G4 := Lib.hid (gb_trans HG.out (gb_trans (gb_alloc (gb_refl _ _) _) hg4))
          clear hg4 c0 c1
          go_wp2_with fail
          (try go_quiet (fail))
          (try go_wp2_with fail)
          go_roundw
          case rel => exact ⟨k + 1, by go_num, by omega, fun j hj => by have h0 := H0.out; obtain rfl : j = k := (by omega); exact HST.out, gb_drewN G4.out _⟩
          case measure => simp [intOf]; omega
        · obtain ⟨m, hm⟩ : ∃ m, k = m + 1 := ⟨k - 1, by omega⟩
          obtain ⟨_, _, hA, _, e0, e1⟩ := HAI.out.at m (by omega)
          injection hA with hA
          injection hA with hA1 hA2
          subst hA1
          subst hA2
          obtain ⟨y, hy⟩ : ∃ y, atD D m = y := ⟨_, rfl⟩
          rw [hy] at e0 e1
          obtain ⟨r, hr⟩ : ∃ r, cmpD y x = r := ⟨_, rfl⟩
          have HC2 := Lib.hid (fun w => show Calls _ _ _ w (RetI r none w) from hr ▸ HC.out y x w)
          have m0 : (0 : Int) ≤ (m : Int) := by omega
          have m1 : (m : Int) < (n : Int) := by omega
          have e2 : IntKind.i64.wrap ((k : Int) - 1) = (m : Int) := by rw [IntWalk.i64_in _ (by omega)]; omega
          have hd : decide (0 < k) = true := decide_eq_true (by omega)
          have hpos : (0 : Int) < (k : Int) := by omega
          have HM := Lib.hid hm
          have hstep : stepD D k = decide (r < 0) := by
            have e : (decide (k = 0)) = false := decide_eq_false h0
            unfold stepD
            rw [hx, hin, e, Bool.false_or, Bool.true_and, show k - 1 = m by omega, hy]
            cases hlt2 : ltD y x with
            | true => exact (decide_eq_true (by rw [← hr]; exact cmpD_neg.2 hlt2)).symm
            | false => exact (decide_eq_false (fun h => by rw [← hr] at h; rw [cmpD_neg.1 h] at hlt2; cases hlt2)).symm
          by_cases hneg : r < 0
          · have HST := Lib.hid (hstep.trans (decide_eq_true hneg))
            have hge : ¬ 0 ≤ r := by omega
            clear hin hx hy hr hm hstep h0
            go_wp2_with fail
            refine (HRX.out _).mono ?_
            rintro e w4 ⟨rfl, hg4⟩
            have hga := gb_trans (gb_alloc (gb_refl wr none) (.cells #[.int .i64 x.1, .int .i64 x.2] 39)) hg4
            have G4 := Lib.hid (gb_trans HG.out hga)
            have bb := BN.out.grown hg4 (by simp)
            have t0 : w4.cell? ⟨wr.heap.size, 0, none⟩ = some (.int .i64 x.1) := bb.cell 0
            have t1 : w4.cell? ⟨wr.heap.size, 1, none⟩ = some (.int .i64 x.2) := bb.cell 1
            have s0 := hga.cell e0 (by simp)
            have s1 := hga.cell e1 (by simp)
            obtain ⟨B, hB⟩ : ∃ B, wr.heap.size = B := ⟨_, rfl⟩
            rw [hB] at t0 t1
            clear hg4 hga bb c0 c1 e0 e1
            go_wp2_with fail
            (try rw [hB])
            go_region_held3 (fun w' => w'.cell? ⟨B, 0, none⟩ = some (.int .i64 x.1) ∧ w'.cell? ⟨B, 1, none⟩ = some (.int .i64 x.2) ∧ w'.cell? ⟨b1, off + m * 2, none⟩ = some (.int .i64 y.1) ∧ w'.cell? ⟨b1, off + m * 2 + 1, none⟩ = some (.int .i64 y.2))
              (first | exact ⟨t0, t1, s0, s1⟩ | exact ⟨d0, d1, d2, d3⟩ | fail)
              (first
                | (go_at_call 56; (with_reducible refine (HC2.out _).mono ?_); rintro e w5 ⟨rfl, hg5⟩; have h5 := gb_dr hg5; have d0 := h5.cell t0 (by simp); have d1 := h5.cell t1 (by simp); have d2 := h5.cell s0 (by simp); have d3 := h5.cell s1 (by simp); have G5 := Lib.hid (gb_trans G4.out h5); clear h5 hg5)
                | fail)
            all_goals
              clear d0 d1 d2 d3 t0 t1 s0 s1
              go_wp2_with fail
              go_roundw
              case rel => exact ⟨k + 1, by go_num, by omega, fun j hj => by rcases Nat.lt_succ_iff_lt_or_eq.1 hj with h | h; exact HS.out j h; rw [h]; exact HST.out, G5.out⟩
              case measure => simp [intOf]; omega
          · have HB := Lib.hid (HNO.out k (by omega) (hstep.trans (decide_eq_false hneg)))
            have hge : 0 ≤ r := by omega
            clear hin hx hy hr hm hstep h0
            go_wp2_with fail
            refine (HRX.out _).mono ?_
            rintro e w4 ⟨rfl, hg4⟩
            have hga := gb_trans (gb_alloc (gb_refl wr none) (.cells #[.int .i64 x.1, .int .i64 x.2] 39)) hg4
            have G4 := Lib.hid (gb_trans HG.out hga)
            have bb := BN.out.grown hg4 (by simp)
            have t0 : w4.cell? ⟨wr.heap.size, 0, none⟩ = some (.int .i64 x.1) := bb.cell 0
            have t1 : w4.cell? ⟨wr.heap.size, 1, none⟩ = some (.int .i64 x.2) := bb.cell 1
            have s0 := hga.cell e0 (by simp)
            have s1 := hga.cell e1 (by simp)
            obtain ⟨B, hB⟩ : ∃ B, wr.heap.size = B := ⟨_, rfl⟩
            rw [hB] at t0 t1
            clear hg4 hga bb c0 c1 e0 e1
            go_wp2_with fail
            (try rw [hB])
            go_region_held3 (fun w' => w'.cell? ⟨B, 0, none⟩ = some (.int .i64 x.1) ∧ w'.cell? ⟨B, 1, none⟩ = some (.int .i64 x.2) ∧ w'.cell? ⟨b1, off + m * 2, none⟩ = some (.int .i64 y.1) ∧ w'.cell? ⟨b1, off + m * 2 + 1, none⟩ = some (.int .i64 y.2))
              (first | exact ⟨t0, t1, s0, s1⟩ | exact ⟨d0, d1, d2, d3⟩ | fail)
              (first
                | (go_at_call 56; (with_reducible refine (HC2.out _).mono ?_); rintro e w5 ⟨rfl, hg5⟩; have h5 := gb_dr hg5; have d0 := h5.cell t0 (by simp); have d1 := h5.cell t1 (by simp); have d2 := h5.cell s0 (by simp); have d3 := h5.cell s1 (by simp); have G5 := Lib.hid (gb_trans G4.out h5); clear h5 hg5)
                | fail)
            all_goals
              clear d0 d1 d2 d3 t0 t1 s0 s1
              go_wp2_with fail
              go_ret
              exact ⟨ret_b2 HB.out.symm, G5.out⟩
    · obtain rfl : k = n := by omega
      have HB := Lib.hid (HYES.out (fun j hj => HS.out j (by omega)))
      clear hai
      go_wp2_with fail
      go_ret
      exact ⟨ret_b2 HB.out.symm, HG.out⟩
end Go.Proofs.Ytcmlnokfjbglaaa
end

section
namespace Go.Proofs.Ytcmlnokfjbglaaa
open Go.ChangeShapes Go.WideShapes Go.ChangeAt Go.RowKit
set_option linter.unusedVariables false

/-- D and E have been merged up to M; A and B are left of them. -/
structure Mrg (D E M A B : List Dep) : Prop where
  asc : ascD M
  ascA : ascD A
  ascB : ascD B
  lt : ∀ m ∈ M, ∀ x, x ∈ A ∨ x ∈ B → ltD m x = true
  mem : ∀ x, x ∈ M ∨ x ∈ A ∨ x ∈ B ↔ x ∈ D ∨ x ∈ E
  len : M.length + A.length + B.length ≤ D.length + E.length
theorem Mrg.start {D E : List Dep} (hD : ascD D) (hE : ascD E) : Mrg D E [] D E :=
  ⟨asc_nil, hD, hE, (fun m hm => by cases hm), (fun x => by simp), (by simp)⟩
theorem mrg_asc {M : List Dep} {x : Dep} (hM : ascD M) (h : ∀ m ∈ M, ltD m x = true) : ascD (M ++ [x]) :=
  List.pairwise_append.2 ⟨hM, List.pairwise_singleton _ _, fun m hm y hy => by rw [List.mem_singleton.1 hy]; exact h m hm⟩
section
variable {D E M A B : List Dep} {a b : Dep}
/-- The first list's head is the least. -/
theorem Mrg.left (h : Mrg D E M (a :: A) (b :: B)) (hab : ltD a b = true) : Mrg D E (M ++ [a]) A (b :: B) := by
  obtain ⟨h1, h2⟩ := List.pairwise_cons.1 h.ascA
  obtain ⟨h3, h4⟩ := List.pairwise_cons.1 h.ascB
  refine ⟨mrg_asc h.asc fun m hm => h.lt m hm a (.inl (List.mem_cons_self ..)), h2, h.ascB, ?_, ?_, ?_⟩
  · intro m hm x hx
    rcases List.mem_append.1 hm with hm | hm
    · exact h.lt m hm x (hx.imp (List.mem_cons_of_mem _) id)
    · rw [List.mem_singleton.1 hm]
      rcases hx with hx | hx
      · exact h1 x hx
      · rcases List.mem_cons.1 hx with rfl | hx
        · exact hab
        · exact ltD_trans hab (h3 x hx)
  · intro x
    rw [← h.mem x]
    simp only [List.mem_append, List.mem_cons, List.not_mem_nil, or_false]
    constructor
    · rintro ((k | k) | k | k)
      · exact .inl k
      · exact .inr (.inl (.inl k))
      · exact .inr (.inl (.inr k))
      · exact .inr (.inr k)
    · rintro (k | (k | k) | k)
      · exact .inl (.inl k)
      · exact .inl (.inr k)
      · exact .inr (.inl k)
      · exact .inr (.inr k)
  · have := h.len
    simp at this ⊢
    omega
/-- The second list's head is the least. -/
theorem Mrg.right (h : Mrg D E M (a :: A) (b :: B)) (hba : ltD b a = true) : Mrg D E (M ++ [b]) (a :: A) B := by
  have hs : Mrg E D M (b :: B) (a :: A) := ⟨h.asc, h.ascB, h.ascA, fun m hm x hx => h.lt m hm x hx.symm, fun x => by
    have := h.mem x
    constructor
    · rintro (k | k | k)
      · exact (this.1 (.inl k)).symm
      · exact (this.1 (.inr (.inr k))).symm
      · exact (this.1 (.inr (.inl k))).symm
    · intro k
      rcases this.2 k.symm with k | k | k
      · exact .inl k
      · exact .inr (.inr k)
      · exact .inr (.inl k), by have := h.len; omega⟩
  have hr := hs.left hba
  exact ⟨hr.asc, hr.ascB, hr.ascA, fun m hm x hx => hr.lt m hm x hx.symm, fun x => by
    have := hr.mem x
    constructor
    · rintro (k | k | k)
      · exact (this.1 (.inl k)).symm
      · exact (this.1 (.inr (.inr k))).symm
      · exact (this.1 (.inr (.inl k))).symm
    · intro k
      rcases this.2 k.symm with k | k | k
      · exact .inl k
      · exact .inr (.inr k)
      · exact .inr (.inl k), by have := hr.len; omega⟩
/-- Both heads are the same element. -/
theorem Mrg.both (h : Mrg D E M (a :: A) (a :: B)) : Mrg D E (M ++ [a]) A B := by
  obtain ⟨h1, h2⟩ := List.pairwise_cons.1 h.ascA
  obtain ⟨h3, h4⟩ := List.pairwise_cons.1 h.ascB
  refine ⟨mrg_asc h.asc fun m hm => h.lt m hm a (.inl (List.mem_cons_self ..)), h2, h4, ?_, ?_, ?_⟩
  · intro m hm x hx
    rcases List.mem_append.1 hm with hm | hm
    · exact h.lt m hm x (hx.imp (List.mem_cons_of_mem _) (List.mem_cons_of_mem _))
    · rw [List.mem_singleton.1 hm]
      rcases hx with hx | hx
      · exact h1 x hx
      · exact h3 x hx
  · intro x
    rw [← h.mem x]
    simp only [List.mem_append, List.mem_cons, List.not_mem_nil, or_false]
    constructor
    · rintro ((k | k) | k | k)
      · exact .inl k
      · exact .inr (.inl (.inl k))
      · exact .inr (.inl (.inr k))
      · exact .inr (.inr (.inr k))
    · rintro (k | (k | k) | (k | k))
      · exact .inl (.inl k)
      · exact .inl (.inr k)
      · exact .inr (.inl k)
      · exact .inl (.inr k)
      · exact .inr (.inr k)
  · have := h.len
    simp at this ⊢
    omega
/-- One list is used up: what is left goes to the end. -/
theorem Mrg.stop (h : Mrg D E M A B) (hD : ascD D) (he : A = [] ∨ B = []) : M ++ A ++ B = insAll D E := by
  have hab : ascD (A ++ B) := by
    rcases he with rfl | rfl
    · exact h.ascB
    · rw [List.append_nil]; exact h.ascA
  have hall : ascD (M ++ (A ++ B)) := List.pairwise_append.2 ⟨h.asc, hab, fun m hm x hx => h.lt m hm x (List.mem_append.1 hx)⟩
  rw [List.append_assoc]
  refine asc_ext _ _ hall (insAll_asc hD E) fun x => ?_
  rw [mem_insAll, ← h.mem x, List.mem_append, List.mem_append]
/-- The same by places: the heads are the elements i and j. -/
theorem drop_cons {D : List Dep} {i : Nat} (h : i < D.length) : D.drop i = atD D i :: D.drop (i + 1) := by
  rw [atD_get h]
  exact List.drop_eq_getElem_cons h
end
end Go.Proofs.Ytcmlnokfjbglaaa
end

section
namespace Go.Proofs.Ytcmlnokfjbglaaa
open Go.ChangeShapes Go.WideShapes Go.ChangeAt Go.RowKit
set_option linter.unusedVariables false
set_option maxRecDepth 20000

/-- A list of the call's own that has become M; Da and Ea are left of the arguments. -/
structure MgAt (D E M Da Ea : List Dep) (A1 A2 : Option Addr) (n1 c1 n2 c2 : Nat) (w : World) (v : Value) (wr : World) : Prop where
  mrg : Mrg D E M Da Ea
  a : DepAt w w.heap.size A1 n1 Da
  b : DepAt w w.heap.size A2 n2 Ea
  ca : n1 ≤ c1
  cb : n2 ≤ c2
  own : wr.ownsRow w.heap.size 39 2 v M.length (depV M)
  lb : Below w.heap.size w wr
def lenMg : Value → Nat | .slice _ n _ => n | _ => 0
section
variable {D E M Da Ea : List Dep} {A1 A2 : Option Addr} {n1 c1 n2 c2 : Nat} {w wr w' : World} {v : Value}
theorem MgAt.gb (h : MgAt D E M Da Ea A1 A2 n1 c1 n2 c2 w v wr) (hg : wr.grownBy w' none) : MgAt D E M Da Ea A1 A2 n1 c1 n2 c2 w v w' := ⟨h.mrg, h.a, h.b, h.ca, h.cb, own_none h.own hg, below_gb h.lb (Nat.le_refl _) hg⟩
end
theorem run_eqlDI {x d : Dep} {b : Bool} (h : decide (x = d) = b) (w : World) : (binOp .eql 39 (.agg #[.int .i64 x.1, .int .i64 x.2]) (.agg #[.int .i64 d.1, .int .i64 d.2])).run Try.prog w = .ok (.bool b) w := by
  have hst : Try.prog.stoodInHeld 39 = false := by kernel_rfl
  subst h
  by_cases h1 : x.1 = d.1
  · by_cases h2 : x.2 = d.2
    · have h3 : x = d := Prod.ext h1 h2
      simp [go_sem, Try.underlying39, Try.underlying3, hst, h3]
    · have h3 : ¬ x = d := fun e => h2 (by rw [e])
      simp [go_sem, Try.underlying39, Try.underlying3, hst, h1, h2, h3]
  · have h3 : ¬ x = d := fun e => h1 (by rw [e])
    simp [go_sem, Try.underlying39, Try.underlying3, hst, h1, h3]
/-- The first element and the rest of a slice that is not empty. -/
theorem depAt_head {w : World} {B n : Nat} {A : Option Addr} {D : List Dep} (h : DepAt w B A n D) (hn : 0 < n) : ∃ b off x D', A = some ⟨b, off, none⟩ ∧ b < B ∧ D = x :: D' ∧ DepAt w B (some ⟨b, off + 2, none⟩) (n - 1) D' := by
  have hl := h.1
  cases D with
  | nil => simp at hl; omega
  | cons x D' =>
    obtain ⟨b, off, rfl, hb, _⟩ := h.at 0 hn
    exact ⟨b, off, x, D', rfl, hb, rfl, h.drop (k := 1) hn⟩
theorem depAt_cells {w : World} {B n b off : Nat} {x : Dep} {D : List Dep} (h : DepAt w B (some ⟨b, off, none⟩) n (x :: D)) (hn : 0 < n) : w.cell? ⟨b, off, none⟩ = some (.int .i64 x.1) ∧ w.cell? ⟨b, off + 1, none⟩ = some (.int .i64 x.2) := by
  obtain ⟨b', off', e, _, h1, h2⟩ := h.at 0 hn
  injection e with e
  injection e with e1 e2
  subst e1 e2
  rw [Nat.zero_mul, Nat.add_zero] at h1 h2
  exact ⟨h1, h2⟩
theorem gb_drM {a b : World} {row : Option Nat} (h : a.drew.grownBy b row) : a.grownBy b row := ⟨h.os, h.tape, h.output, h.size, h.block⟩
theorem depAt_less {w : World} {B n : Nat} {A A' : Option Addr} {D : List Dep} (h : DepAt w B A n D) (h0 : n = 0) : DepAt w B A' n D := ⟨h.1, fun hp => by omega⟩

set_option maxHeartbeats 3200000 in
theorem implMerge (A A2 : Option Addr) (n cap n2 c2 : Nat) (D E : List Dep) (w : World) (h : DepAt w w.heap.size A n D) (h2 : DepAt w w.heap.size A2 n2 E) (hn : n ≤ 1000000000) (hn2 : n2 ≤ 1000000000) (hc : n ≤ cap) (hc2 : n2 ≤ c2) :
    Calls Try.prog 15 #[.slice A n cap, .slice A2 n2 c2] w (NewD (mergeD D E) w) := by
  obtain ⟨i0, hi, hz0, hz1, hz2⟩ := info_parts info_dep
  have hl := h.1
  have hl2 := h2.1
  have HI := Lib.hid h
  have HI2 := Lib.hid h2
  have HOK := Lib.hid (implDependsOk A n cap D w h (by omega))
  have HOK2 := Lib.hid (fun (w' : World) (h' : DepAt w' w'.heap.size A2 n2 E) => implDependsOk A2 n2 c2 E w' h' (by omega))
  have HCMP := Lib.hid (fun x y w => implCompare x y w)
  clear h h2
  cases hok : okD D with
  | false =>
    rw [merge_no1 hok]
    rw [hok] at HOK
    clear hok
    go_enter Try.func15, Try.ntmps15
    go_wp2_with fail
    refine HOK.out.mono ?_
    rintro e w1 ⟨rfl, hg1⟩
    have G1 := Lib.hid hg1
    clear hg1
    go_wp2_with fail
    go_ret
    exact ⟨_, rfl, own_nilD rfl _ _, gb_below_none G1.out (Nat.le_refl _)⟩
  | true =>
    rw [hok] at HOK
    cases hok2 : okD E with
    | false =>
      rw [merge_no2 hok2]
      rw [hok2] at HOK2
      clear hok hok2
      go_enter Try.func15, Try.ntmps15
      go_wp2_with fail
      refine HOK.out.mono ?_
      rintro e w1 ⟨rfl, hg1⟩
      have G1 := Lib.hid hg1
      clear hg1
      go_wp2_with fail
      refine (HOK2.out _ ((HI2.out.none (Nat.le_refl _) G1.out).more G1.out.size)).mono ?_
      rintro e w2 ⟨rfl, hg2⟩
      have G2 := Lib.hid (gb_trans G1.out hg2)
      clear hg2
      go_wp2_with fail
      go_ret
      exact ⟨_, rfl, own_nilD rfl _ _, gb_below_none G2.out (Nat.le_refl _)⟩
    | true =>
      have HM := Lib.hid (merge_yes hok hok2)
      have HASC := Lib.hid (okD_asc hok)
      have HST := Lib.hid (Mrg.start (okD_asc hok) (okD_asc hok2))
      rw [hok2] at HOK2
      obtain ⟨R, hR⟩ : ∃ R, mergeD D E = R := ⟨_, rfl⟩
      rw [hR] at HM
      rw [hR]
      have hcs : IntKind.i64.wrap ((n : Int) + (n2 : Int)) = (n : Int) + (n2 : Int) := IntWalk.i64_in _ (by omega)
      clear hok hok2 hR
      go_enter Try.func15, Try.ntmps15
      go_wp2_with fail
      refine HOK.out.mono ?_
      rintro e w1 ⟨rfl, hg1⟩
      have G1 := Lib.hid hg1
      clear hg1
      go_wp2_with fail
      refine (HOK2.out _ ((HI2.out.none (Nat.le_refl _) G1.out).more G1.out.size)).mono ?_
      rintro e w2 ⟨rfl, hg2⟩
      have G2 := Lib.hid (gb_trans G1.out hg2)
      clear hg2
      go_wp2_with (at_make; refine wpList_make_own _ rfl _ _ 24 rfl w.heap.size 39 i0 (.agg #[.int .i64 0, .int .i64 0]) 2 Try.underlying24 hi hz0 hz1 .i64 .i64 _ (n + n2) rfl rfl (by omega) (by rw [hz2]; omega) (by unfold maxLen; omega) G2.out.size ?_; intro w3 hown3 hgrow3)
      have X3 := Lib.hid (show MgAt D E [] D E A A2 n cap n2 c2 w _ w3 from ⟨HST.out, HI.out, HI2.out, hc, hc2, hown3, gb_below_none (gb_trans G2.out hgrow3) (Nat.le_refl _)⟩)
      clear hown3 hgrow3 hcs hc hc2
      go_loopw [0, 1, 5] (fun s t v wr => ∃ (M Da Ea : List Dep) (A1 A2 : Option Addr) (n1 c1 n2 c2 : Nat), s = .slice A1 n1 c1 ∧ t = .slice A2 n2 c2 ∧ MgAt D E M Da Ea A1 A2 n1 c1 n2 c2 w v wr) (fun s t _ _ => lenMg s + lenMg t)
      case atStart => exact ⟨[], D, E, A, A2, n, cap, n2, c2, rfl, rfl, X3.out⟩
      case round =>
        obtain ⟨M, Da, Ea, A1, A3, n1, c1, n3, c3, rfl, rfl, hx⟩ := hrel
        have X4 := Lib.hid hx
        obtain ⟨Av, cv, rfl, _⟩ := own_form hx.own
        have hlm := hx.mrg.len
        have ha1 := hx.a.1
        have hb1 := hx.b.1
        have hsz := hx.lb.size
        by_cases hp1 : 0 < n1
        · by_cases hp3 : 0 < n3
          · obtain ⟨b1, o1, x, Da, rfl, hbb1, rfl, ha2⟩ := depAt_head hx.a hp1
            obtain ⟨b3, o3, y, Ea, rfl, hbb3, rfl, hb2⟩ := depAt_head hx.b hp3
            have HA := Lib.hid (And.intro hx.ca ha2)
            have HB := Lib.hid (And.intro hx.cb hb2)
            have hca := hx.ca
            have hcb := hx.cb
            obtain ⟨hx0, hx1⟩ := depAt_cells (hx.a.below hx.lb) hp1
            have q1 : (0 : Int) < (n1 : Int) := by omega
            have q3 : (0 : Int) < (n3 : Int) := by omega
            clear hx ha2 hb2
            simp only [List.length_cons] at ha1 hb1 hlm
            by_cases hlt : ltD y x = true
            · have hc0 : cmpD y x < 0 := cmpD_neg.2 hlt
              have hne : x ≠ y := fun e => by rw [e, ltD_irrefl] at hlt; cases hlt
              have HE1 := run_eqlDI (x := x) (d := y) (b := false) (decide_eq_false hne)
              have HE2 := run_eqlDI (x := y) (d := y) (b := true) (decide_eq_true rfl)
              have HMR := Lib.hid (show Mrg D E (M ++ [y]) (x :: Da) Ea from X4.out.mrg.right hlt)
              go_wp2_with fail
              change Code.wp _ _ _ _ (boxD x wr)
              have L1 := Lib.hid (boxD_gb x wr)
              have K1 := Lib.hid (boxD_blk x wr)
              have X5 := Lib.hid (X4.out.gb L1.out)
              obtain ⟨hy0, hy1⟩ := depAt_cells (X5.out.b.below X5.out.lb) hp3
              have hk0 : (boxD x wr).cell? ⟨wr.heap.size, 0, none⟩ = some (.int .i64 x.1) := K1.out.cell 0
              have hk1 : (boxD x wr).cell? ⟨wr.heap.size, 1, none⟩ = some (.int .i64 x.2) := K1.out.cell 1
              have HW1 := Lib.hid (show wr.heap.size < (boxD x wr).heap.size from K1.out.lt)
              clear hx0 hx1
              obtain ⟨W1, hW1⟩ : ∃ W1, boxD x wr = W1 := ⟨_, rfl⟩
              rw [hW1] at L1 K1 X5 hy0 hy1 hk0 hk1 HW1 ⊢
              obtain ⟨gx, hgx⟩ : ∃ gx, wr.heap.size = gx := ⟨_, rfl⟩
              have HGX := Lib.hid hgx
              rw [hgx] at K1 hk0 hk1 HW1 hsz ⊢
              clear hW1 hgx
              go_wp2_with fail
              go_region_held3 (fun w' => w'.cell? ⟨gx, 0, none⟩ = some (.int .i64 x.1) ∧ w'.cell? ⟨gx, 1, none⟩ = some (.int .i64 x.2) ∧ w'.cell? ⟨b3, o3, none⟩ = some (.int .i64 y.1) ∧ w'.cell? ⟨b3, o3 + 1, none⟩ = some (.int .i64 y.2))
                (first | exact ⟨hk0, hk1, hy0, hy1⟩ | exact ⟨d0, d1, d2, d3⟩ | fail)
                (first
                  | (go_at_call 56; (with_reducible refine (HCMP.out y x _).mono ?_); rintro e w4 ⟨rfl, hg4⟩; have h4 := gb_drM hg4; have d0 := h4.cell hk0 (by simp); have d1 := h4.cell hk1 (by simp); have d2 := h4.cell hy0 (by simp); have d3 := h4.cell hy1 (by simp); have L4 := Lib.hid (gb_trans L1.out h4); have K4 := Lib.hid (K1.out.grown h4 (by simp)); clear h4 hg4)
                  | fail)
              all_goals
                clear hk0 hk1 hy0 hy1
                have f0 := K4.out.frozen 0
                have f1 := K4.out.frozen 1
                have L5 := Lib.hid (show wr.grownBy ((w4.setCell ⟨gx, 0, none⟩ (.int .i64 y.1)).setCell ⟨gx, 1, none⟩ (.int .i64 y.2)) none from gb_setCell (gb_setCell L4.out (.inr (Nat.le_of_eq HGX.out)) _) (.inr (Nat.le_of_eq HGX.out)) _)
                have K5 := Lib.hid (show Blk ((w4.setCell ⟨gx, 0, none⟩ (.int .i64 y.1)).setCell ⟨gx, 1, none⟩ (.int .i64 y.2)) gx 39 #[.int .i64 y.1, .int .i64 y.2] by have := (K4.out.set_ 0 (.int .i64 y.1)).set_ 1 (.int .i64 y.2); simpa using this)
                have e0 : ((w4.setCell ⟨gx, 0, none⟩ (.int .i64 y.1)).setCell ⟨gx, 1, none⟩ (.int .i64 y.2)).cell? ⟨gx, 0, none⟩ = some (.int .i64 y.1) := K5.out.cell 0
                have e1 : ((w4.setCell ⟨gx, 0, none⟩ (.int .i64 y.1)).setCell ⟨gx, 1, none⟩ (.int .i64 y.2)).cell? ⟨gx, 1, none⟩ = some (.int .i64 y.2) := K5.out.cell 1
                have S5 : ((w4.setCell ⟨gx, 0, none⟩ (.int .i64 y.1)).setCell ⟨gx, 1, none⟩ (.int .i64 y.2)).heap.size = w4.heap.size := by simp
                have L6 := Lib.hid (gb_alloc L5.out (.cells #[.int .i64 y.1, .int .i64 y.2] 39))
                have X6 := Lib.hid (X4.out.gb L6.out)
                have hnw := heap_alloc_new ((w4.setCell ⟨gx, 0, none⟩ (.int .i64 y.1)).setCell ⟨gx, 1, none⟩ (.int .i64 y.2)) (.cells #[.int .i64 y.1, .int .i64 y.2] 39)
                rw [S5] at hnw
                have HNW := Lib.hid (World.news_of_block (cs := #[.int .i64 y.1, .int .i64 y.2]) (t := 39) (fr := (0, 0)) hnw)
                clear hnw
                have K6 := Lib.hid (K5.out.alloc (.cells #[.int .i64 y.1, .int .i64 y.2] 39))
                have b3' := Lib.hid (show ∀ u ∈ [Value.int .i64 y.1, Value.int .i64 y.2], u.oneCell' = true by simp [Value.oneCell'])
                have b4' := Lib.hid (show M.length + 1 ≤ maxLen by unfold maxLen; omega)
                have SZ6 := Lib.hid (show w.heap.size ≤ (((w4.setCell ⟨gx, 0, none⟩ (.int .i64 y.1)).setCell ⟨gx, 1, none⟩ (.int .i64 y.2)).alloc (.cells #[.int .i64 y.1, .int .i64 y.2] 39)).heap.size from Nat.le_trans (HGX.out ▸ hsz) L6.out.size)
                clear d0 d1 d2 d3
                go_wp2_with (at_builtin; refine wpList_append_own _ rfl _ _ 24 rfl w.heap.size 39 i0 (.agg #[.int .i64 0, .int .i64 0]) 2 16 Try.underlying24 hi hz0 hz1 hz2 rfl (by decide) _ M.length _ rfl X6.out.own ⟨w4.heap.size, 0, none⟩ 1 1 [.int .i64 y.1, .int .i64 y.2] rfl rfl HNW.out b3'.out b4'.out (by omega) SZ6.out ?_; intro v' w7 hown7 hgrow7 _; have K7 := Lib.hid (K6.out.grown hgrow7 (fun e => by have := (X4.out.own.lt gx e.symm).2; have := HGX.out; omega)); have O7 := Lib.hid (show w7.ownsRow w.heap.size 39 2 v' (M ++ [y]).length (depV (M ++ [y])) by rw [List.length_append, depV_append]; exact hown7); have B7 := Lib.hid (X6.out.lb.grown hgrow7 SZ6.out (fun j hj => (X6.out.own.lt j hj).1)); obtain ⟨hx0, hx1⟩ := depAt_cells (X4.out.a.below B7.out) hp1; obtain ⟨hy0, hy1⟩ := depAt_cells (X4.out.b.below B7.out) hp3; have e0 : w7.cell? ⟨gx, 0, none⟩ = some (.int .i64 y.1) := K7.out.cell 0; have e1 : w7.cell? ⟨gx, 1, none⟩ = some (.int .i64 y.2) := K7.out.cell 1; clear hown7 hgrow7)
                by_cases hc3 : c3 = 1
                · subst hc3
                  obtain rfl : n3 = 1 := by have := HB.out.1; omega
                  go_quiet (fail)
                  go_wp2_with fail
                  go_quiet (fail)
                  go_wp2_with fail
                  go_roundw
                  case rel => exact ⟨M ++ [y], (x :: Da), Ea, _, _, _, _, _, _, rfl, rfl, (show MgAt D E (M ++ [y]) (x :: Da) Ea (some ⟨b1, o1, none⟩) (some ⟨b3, o3, none⟩) n1 c1 0 0 w _ w7 from ⟨HMR.out, X4.out.a, (depAt_less HB.out.2 rfl), by omega, by omega, O7.out, B7.out⟩).gb (by first | exact gb_refl _ _ | exact gb_drewN (gb_refl _ none) _ | exact gb_drewN (gb_drewN (gb_refl _ none) _) _)⟩
                  case measure => simp [lenMg] <;> omega
                · have hc31 : ¬ c3 = 1 := hc3
                  go_quiet (fail)
                  go_wp2_with fail
                  go_quiet (fail)
                  go_wp2_with fail
                  go_roundw
                  case rel => exact ⟨M ++ [y], (x :: Da), Ea, _, _, _, _, _, _, rfl, rfl, (show MgAt D E (M ++ [y]) (x :: Da) Ea (some ⟨b1, o1, none⟩) (some ⟨b3, o3 + 2, none⟩) n1 c1 (n3 - 1) (c3 - 1) w _ w7 from ⟨HMR.out, X4.out.a, HB.out.2, by omega, by omega, O7.out, B7.out⟩).gb (by first | exact gb_refl _ _ | exact gb_drewN (gb_refl _ none) _ | exact gb_drewN (gb_drewN (gb_refl _ none) _) _)⟩
                  case measure => simp [lenMg] <;> omega
            · have hc0 : ¬ cmpD y x < 0 := fun e => hlt (cmpD_neg.1 e)
              by_cases hne : x = y
              · subst hne
                have HE1 := run_eqlDI (x := x) (d := x) (b := true) (decide_eq_true rfl)
                have HMR := Lib.hid (show Mrg D E (M ++ [x]) Da Ea from X4.out.mrg.both)
                go_wp2_with fail
                change Code.wp _ _ _ _ (boxD x wr)
                have L1 := Lib.hid (boxD_gb x wr)
                have K1 := Lib.hid (boxD_blk x wr)
                have X5 := Lib.hid (X4.out.gb L1.out)
                obtain ⟨hy0, hy1⟩ := depAt_cells (X5.out.b.below X5.out.lb) hp3
                have hk0 : (boxD x wr).cell? ⟨wr.heap.size, 0, none⟩ = some (.int .i64 x.1) := K1.out.cell 0
                have hk1 : (boxD x wr).cell? ⟨wr.heap.size, 1, none⟩ = some (.int .i64 x.2) := K1.out.cell 1
                have HW1 := Lib.hid (show wr.heap.size < (boxD x wr).heap.size from K1.out.lt)
                clear hx0 hx1
                obtain ⟨W1, hW1⟩ : ∃ W1, boxD x wr = W1 := ⟨_, rfl⟩
                rw [hW1] at L1 K1 X5 hy0 hy1 hk0 hk1 HW1 ⊢
                obtain ⟨gx, hgx⟩ : ∃ gx, wr.heap.size = gx := ⟨_, rfl⟩
                have HGX := Lib.hid hgx
                rw [hgx] at K1 hk0 hk1 HW1 hsz ⊢
                clear hW1 hgx
                go_wp2_with fail
                go_region_held3 (fun w' => w'.cell? ⟨gx, 0, none⟩ = some (.int .i64 x.1) ∧ w'.cell? ⟨gx, 1, none⟩ = some (.int .i64 x.2) ∧ w'.cell? ⟨b3, o3, none⟩ = some (.int .i64 x.1) ∧ w'.cell? ⟨b3, o3 + 1, none⟩ = some (.int .i64 x.2))
                  (first | exact ⟨hk0, hk1, hy0, hy1⟩ | exact ⟨d0, d1, d2, d3⟩ | fail)
                  (first
                    | (go_at_call 56; (with_reducible refine (HCMP.out x x _).mono ?_); rintro e w4 ⟨rfl, hg4⟩; have h4 := gb_drM hg4; have d0 := h4.cell hk0 (by simp); have d1 := h4.cell hk1 (by simp); have d2 := h4.cell hy0 (by simp); have d3 := h4.cell hy1 (by simp); have L4 := Lib.hid (gb_trans L1.out h4); have K4 := Lib.hid (K1.out.grown h4 (by simp)); clear h4 hg4)
                    | fail)
                all_goals
                  clear hk0 hk1 hy0 hy1
                  have L5 := L4
                  have K5 := K4
                  have e0 : w4.cell? ⟨gx, 0, none⟩ = some (.int .i64 x.1) := K5.out.cell 0
                  have e1 : w4.cell? ⟨gx, 1, none⟩ = some (.int .i64 x.2) := K5.out.cell 1
                  have S5 : w4.heap.size = w4.heap.size := rfl
                  have L6 := Lib.hid (gb_alloc L5.out (.cells #[.int .i64 x.1, .int .i64 x.2] 39))
                  have X6 := Lib.hid (X4.out.gb L6.out)
                  have hnw := heap_alloc_new w4 (.cells #[.int .i64 x.1, .int .i64 x.2] 39)
                  skip
                  have HNW := Lib.hid (World.news_of_block (cs := #[.int .i64 x.1, .int .i64 x.2]) (t := 39) (fr := (0, 0)) hnw)
                  clear hnw
                  have K6 := Lib.hid (K5.out.alloc (.cells #[.int .i64 x.1, .int .i64 x.2] 39))
                  have b3' := Lib.hid (show ∀ u ∈ [Value.int .i64 x.1, Value.int .i64 x.2], u.oneCell' = true by simp [Value.oneCell'])
                  have b4' := Lib.hid (show M.length + 1 ≤ maxLen by unfold maxLen; omega)
                  have SZ6 := Lib.hid (show w.heap.size ≤ (w4.alloc (.cells #[.int .i64 x.1, .int .i64 x.2] 39)).heap.size from Nat.le_trans (HGX.out ▸ hsz) L6.out.size)
                  clear d0 d1 d2 d3
                  go_wp2_with (at_builtin; refine wpList_append_own _ rfl _ _ 24 rfl w.heap.size 39 i0 (.agg #[.int .i64 0, .int .i64 0]) 2 16 Try.underlying24 hi hz0 hz1 hz2 rfl (by decide) _ M.length _ rfl X6.out.own ⟨w4.heap.size, 0, none⟩ 1 1 [.int .i64 x.1, .int .i64 x.2] rfl rfl HNW.out b3'.out b4'.out (by omega) SZ6.out ?_; intro v' w7 hown7 hgrow7 _; have K7 := Lib.hid (K6.out.grown hgrow7 (fun e => by have := (X4.out.own.lt gx e.symm).2; have := HGX.out; omega)); have O7 := Lib.hid (show w7.ownsRow w.heap.size 39 2 v' (M ++ [x]).length (depV (M ++ [x])) by rw [List.length_append, depV_append]; exact hown7); have B7 := Lib.hid (X6.out.lb.grown hgrow7 SZ6.out (fun j hj => (X6.out.own.lt j hj).1)); obtain ⟨hx0, hx1⟩ := depAt_cells (X4.out.a.below B7.out) hp1; obtain ⟨hy0, hy1⟩ := depAt_cells (X4.out.b.below B7.out) hp3; have e0 : w7.cell? ⟨gx, 0, none⟩ = some (.int .i64 x.1) := K7.out.cell 0; have e1 : w7.cell? ⟨gx, 1, none⟩ = some (.int .i64 x.2) := K7.out.cell 1; clear hown7 hgrow7)
                  by_cases hc1 : c1 = 1
                  · subst hc1
                    obtain rfl : n1 = 1 := by have := HA.out.1; omega
                    by_cases hc3 : c3 = 1
                    · subst hc3
                      obtain rfl : n3 = 1 := by have := HB.out.1; omega
                      go_quiet (fail)
                      go_wp2_with fail
                      go_quiet (fail)
                      go_wp2_with fail
                      go_roundw
                      case rel => exact ⟨M ++ [x], Da, Ea, _, _, _, _, _, _, rfl, rfl, (show MgAt D E (M ++ [x]) Da Ea (some ⟨b1, o1, none⟩) (some ⟨b3, o3, none⟩) 0 0 0 0 w _ w7 from ⟨HMR.out, (depAt_less HA.out.2 rfl), (depAt_less HB.out.2 rfl), by omega, by omega, O7.out, B7.out⟩).gb (by first | exact gb_refl _ _ | exact gb_drewN (gb_refl _ none) _ | exact gb_drewN (gb_drewN (gb_refl _ none) _) _)⟩
                      case measure => simp [lenMg] <;> omega
                    · have hc31 : ¬ c3 = 1 := hc3
                      go_quiet (fail)
                      go_wp2_with fail
                      go_quiet (fail)
                      go_wp2_with fail
                      go_roundw
                      case rel => exact ⟨M ++ [x], Da, Ea, _, _, _, _, _, _, rfl, rfl, (show MgAt D E (M ++ [x]) Da Ea (some ⟨b1, o1, none⟩) (some ⟨b3, o3 + 2, none⟩) 0 0 (n3 - 1) (c3 - 1) w _ w7 from ⟨HMR.out, (depAt_less HA.out.2 rfl), HB.out.2, by omega, by omega, O7.out, B7.out⟩).gb (by first | exact gb_refl _ _ | exact gb_drewN (gb_refl _ none) _ | exact gb_drewN (gb_drewN (gb_refl _ none) _) _)⟩
                      case measure => simp [lenMg] <;> omega
                  · have hc11 : ¬ c1 = 1 := hc1
                    by_cases hc3 : c3 = 1
                    · subst hc3
                      obtain rfl : n3 = 1 := by have := HB.out.1; omega
                      go_quiet (fail)
                      go_wp2_with fail
                      go_quiet (fail)
                      go_wp2_with fail
                      go_roundw
                      case rel => exact ⟨M ++ [x], Da, Ea, _, _, _, _, _, _, rfl, rfl, (show MgAt D E (M ++ [x]) Da Ea (some ⟨b1, o1 + 2, none⟩) (some ⟨b3, o3, none⟩) (n1 - 1) (c1 - 1) 0 0 w _ w7 from ⟨HMR.out, HA.out.2, (depAt_less HB.out.2 rfl), by omega, by omega, O7.out, B7.out⟩).gb (by first | exact gb_refl _ _ | exact gb_drewN (gb_refl _ none) _ | exact gb_drewN (gb_drewN (gb_refl _ none) _) _)⟩
                      case measure => simp [lenMg] <;> omega
                    · have hc31 : ¬ c3 = 1 := hc3
                      go_quiet (fail)
                      go_wp2_with fail
                      go_quiet (fail)
                      go_wp2_with fail
                      go_roundw
                      case rel => exact ⟨M ++ [x], Da, Ea, _, _, _, _, _, _, rfl, rfl, (show MgAt D E (M ++ [x]) Da Ea (some ⟨b1, o1 + 2, none⟩) (some ⟨b3, o3 + 2, none⟩) (n1 - 1) (c1 - 1) (n3 - 1) (c3 - 1) w _ w7 from ⟨HMR.out, HA.out.2, HB.out.2, by omega, by omega, O7.out, B7.out⟩).gb (by first | exact gb_refl _ _ | exact gb_drewN (gb_refl _ none) _ | exact gb_drewN (gb_drewN (gb_refl _ none) _) _)⟩
                      case measure => simp [lenMg] <;> omega
              · have hlt2 : ltD x y = true := ltD_tri (by simpa using hlt) (fun e => hne e.symm)
                have HE1 := run_eqlDI (x := x) (d := x) (b := true) (decide_eq_true rfl)
                have HE2 := run_eqlDI (x := y) (d := x) (b := false) (decide_eq_false (fun e => hne e.symm))
                have HMR := Lib.hid (show Mrg D E (M ++ [x]) Da (y :: Ea) from X4.out.mrg.left hlt2)
                go_wp2_with fail
                change Code.wp _ _ _ _ (boxD x wr)
                have L1 := Lib.hid (boxD_gb x wr)
                have K1 := Lib.hid (boxD_blk x wr)
                have X5 := Lib.hid (X4.out.gb L1.out)
                obtain ⟨hy0, hy1⟩ := depAt_cells (X5.out.b.below X5.out.lb) hp3
                have hk0 : (boxD x wr).cell? ⟨wr.heap.size, 0, none⟩ = some (.int .i64 x.1) := K1.out.cell 0
                have hk1 : (boxD x wr).cell? ⟨wr.heap.size, 1, none⟩ = some (.int .i64 x.2) := K1.out.cell 1
                have HW1 := Lib.hid (show wr.heap.size < (boxD x wr).heap.size from K1.out.lt)
                clear hx0 hx1
                obtain ⟨W1, hW1⟩ : ∃ W1, boxD x wr = W1 := ⟨_, rfl⟩
                rw [hW1] at L1 K1 X5 hy0 hy1 hk0 hk1 HW1 ⊢
                obtain ⟨gx, hgx⟩ : ∃ gx, wr.heap.size = gx := ⟨_, rfl⟩
                have HGX := Lib.hid hgx
                rw [hgx] at K1 hk0 hk1 HW1 hsz ⊢
                clear hW1 hgx
                go_wp2_with fail
                go_region_held3 (fun w' => w'.cell? ⟨gx, 0, none⟩ = some (.int .i64 x.1) ∧ w'.cell? ⟨gx, 1, none⟩ = some (.int .i64 x.2) ∧ w'.cell? ⟨b3, o3, none⟩ = some (.int .i64 y.1) ∧ w'.cell? ⟨b3, o3 + 1, none⟩ = some (.int .i64 y.2))
                  (first | exact ⟨hk0, hk1, hy0, hy1⟩ | exact ⟨d0, d1, d2, d3⟩ | fail)
                  (first
                    | (go_at_call 56; (with_reducible refine (HCMP.out y x _).mono ?_); rintro e w4 ⟨rfl, hg4⟩; have h4 := gb_drM hg4; have d0 := h4.cell hk0 (by simp); have d1 := h4.cell hk1 (by simp); have d2 := h4.cell hy0 (by simp); have d3 := h4.cell hy1 (by simp); have L4 := Lib.hid (gb_trans L1.out h4); have K4 := Lib.hid (K1.out.grown h4 (by simp)); clear h4 hg4)
                    | fail)
                all_goals
                  clear hk0 hk1 hy0 hy1
                  have L5 := L4
                  have K5 := K4
                  have e0 : w4.cell? ⟨gx, 0, none⟩ = some (.int .i64 x.1) := K5.out.cell 0
                  have e1 : w4.cell? ⟨gx, 1, none⟩ = some (.int .i64 x.2) := K5.out.cell 1
                  have S5 : w4.heap.size = w4.heap.size := rfl
                  have L6 := Lib.hid (gb_alloc L5.out (.cells #[.int .i64 x.1, .int .i64 x.2] 39))
                  have X6 := Lib.hid (X4.out.gb L6.out)
                  have hnw := heap_alloc_new w4 (.cells #[.int .i64 x.1, .int .i64 x.2] 39)
                  skip
                  have HNW := Lib.hid (World.news_of_block (cs := #[.int .i64 x.1, .int .i64 x.2]) (t := 39) (fr := (0, 0)) hnw)
                  clear hnw
                  have K6 := Lib.hid (K5.out.alloc (.cells #[.int .i64 x.1, .int .i64 x.2] 39))
                  have b3' := Lib.hid (show ∀ u ∈ [Value.int .i64 x.1, Value.int .i64 x.2], u.oneCell' = true by simp [Value.oneCell'])
                  have b4' := Lib.hid (show M.length + 1 ≤ maxLen by unfold maxLen; omega)
                  have SZ6 := Lib.hid (show w.heap.size ≤ (w4.alloc (.cells #[.int .i64 x.1, .int .i64 x.2] 39)).heap.size from Nat.le_trans (HGX.out ▸ hsz) L6.out.size)
                  clear d0 d1 d2 d3
                  go_wp2_with (at_builtin; refine wpList_append_own _ rfl _ _ 24 rfl w.heap.size 39 i0 (.agg #[.int .i64 0, .int .i64 0]) 2 16 Try.underlying24 hi hz0 hz1 hz2 rfl (by decide) _ M.length _ rfl X6.out.own ⟨w4.heap.size, 0, none⟩ 1 1 [.int .i64 x.1, .int .i64 x.2] rfl rfl HNW.out b3'.out b4'.out (by omega) SZ6.out ?_; intro v' w7 hown7 hgrow7 _; have K7 := Lib.hid (K6.out.grown hgrow7 (fun e => by have := (X4.out.own.lt gx e.symm).2; have := HGX.out; omega)); have O7 := Lib.hid (show w7.ownsRow w.heap.size 39 2 v' (M ++ [x]).length (depV (M ++ [x])) by rw [List.length_append, depV_append]; exact hown7); have B7 := Lib.hid (X6.out.lb.grown hgrow7 SZ6.out (fun j hj => (X6.out.own.lt j hj).1)); obtain ⟨hx0, hx1⟩ := depAt_cells (X4.out.a.below B7.out) hp1; obtain ⟨hy0, hy1⟩ := depAt_cells (X4.out.b.below B7.out) hp3; have e0 : w7.cell? ⟨gx, 0, none⟩ = some (.int .i64 x.1) := K7.out.cell 0; have e1 : w7.cell? ⟨gx, 1, none⟩ = some (.int .i64 x.2) := K7.out.cell 1; clear hown7 hgrow7)
                  by_cases hc1 : c1 = 1
                  · subst hc1
                    obtain rfl : n1 = 1 := by have := HA.out.1; omega
                    go_quiet (fail)
                    go_wp2_with fail
                    go_quiet (fail)
                    go_wp2_with fail
                    go_roundw
                    case rel => exact ⟨M ++ [x], Da, (y :: Ea), _, _, _, _, _, _, rfl, rfl, (show MgAt D E (M ++ [x]) Da (y :: Ea) (some ⟨b1, o1, none⟩) (some ⟨b3, o3, none⟩) 0 0 n3 c3 w _ w7 from ⟨HMR.out, (depAt_less HA.out.2 rfl), X4.out.b, by omega, by omega, O7.out, B7.out⟩).gb (by first | exact gb_refl _ _ | exact gb_drewN (gb_refl _ none) _ | exact gb_drewN (gb_drewN (gb_refl _ none) _) _)⟩
                    case measure => simp [lenMg] <;> omega
                  · have hc11 : ¬ c1 = 1 := hc1
                    go_quiet (fail)
                    go_wp2_with fail
                    go_quiet (fail)
                    go_wp2_with fail
                    go_roundw
                    case rel => exact ⟨M ++ [x], Da, (y :: Ea), _, _, _, _, _, _, rfl, rfl, (show MgAt D E (M ++ [x]) Da (y :: Ea) (some ⟨b1, o1 + 2, none⟩) (some ⟨b3, o3, none⟩) (n1 - 1) (c1 - 1) n3 c3 w _ w7 from ⟨HMR.out, HA.out.2, X4.out.b, by omega, by omega, O7.out, B7.out⟩).gb (by first | exact gb_refl _ _ | exact gb_drewN (gb_refl _ none) _ | exact gb_drewN (gb_drewN (gb_refl _ none) _) _)⟩
                    case measure => simp [lenMg] <;> omega
          · obtain rfl : n3 = 0 := by omega
            have q1 : (0 : Int) < (n1 : Int) := by omega
            have q3 : ¬ (0 : Int) < ((0 : Nat) : Int) := by omega
            have HST2 := Lib.hid (X4.out.mrg.stop HASC.out (.inr (List.eq_nil_of_length_eq_zero hb1)))
            have N1 := Lib.hid (show M.length + n1 ≤ 4000000001 by omega)
            have N2 := Lib.hid (show M.length + n1 + 0 ≤ 4000000001 by omega)
            have HAR := Lib.hid (X4.out.a.below X4.out.lb)
            clear hx
            go_wp2_with (first
              | (at_builtin; refine wpList_app_ownD _ rfl (.tmp 59) (.tmp 60) rfl i0 hi hz0 hz1 hz2 w.heap.size M.length n1 c1 w.heap.size A1 M Da _ rfl rfl X4.out.own HAR.out N1.out hsz ?_; intro v5 w5 ho5 hg5; obtain ⟨A5, c5, rfl, _⟩ := own_form ho5; have O5 := Lib.hid ho5; have B5 := Lib.hid (X4.out.lb.grown hg5 hsz (fun j hj => (X4.out.own.lt j hj).1)); have HBR := Lib.hid (X4.out.b.below B5.out); have S5 := Lib.hid B5.out.size; clear ho5 hg5)
              | (at_builtin; refine wpList_app_ownD _ rfl (.tmp 62) (.tmp 63) rfl i0 hi hz0 hz1 hz2 w.heap.size (M.length + n1) 0 c3 w.heap.size A3 (M ++ Da) Ea _ rfl rfl O5.out HBR.out N2.out S5.out ?_; intro v6 w6 ho6 hg6; have O6 := Lib.hid ho6; have B6 := Lib.hid (B5.out.grown hg6 S5.out (fun j hj => (O5.out.lt j hj).1)); clear ho6 hg6))
            go_ret
            refine ⟨_, rfl, ?_, B6.out⟩
            have h6 := O6.out
            rw [HST2.out] at h6
            rw [HM.out, own_dep_length h6]
            exact h6
        · obtain rfl : n1 = 0 := by omega
          have q1 : ¬ (0 : Int) < ((0 : Nat) : Int) := by omega
          have HST2 := Lib.hid (X4.out.mrg.stop HASC.out (.inl (List.eq_nil_of_length_eq_zero ha1)))
          have N1 := Lib.hid (show M.length + 0 ≤ 4000000001 by omega)
          have N2 := Lib.hid (show M.length + 0 + n3 ≤ 4000000001 by omega)
          have HAR := Lib.hid (X4.out.a.below X4.out.lb)
          clear hx
          go_wp2_with (first
            | (at_builtin; refine wpList_app_ownD _ rfl (.tmp 59) (.tmp 60) rfl i0 hi hz0 hz1 hz2 w.heap.size M.length 0 c1 w.heap.size A1 M Da _ rfl rfl X4.out.own HAR.out N1.out hsz ?_; intro v5 w5 ho5 hg5; obtain ⟨A5, c5, rfl, _⟩ := own_form ho5; have O5 := Lib.hid ho5; have B5 := Lib.hid (X4.out.lb.grown hg5 hsz (fun j hj => (X4.out.own.lt j hj).1)); have HBR := Lib.hid (X4.out.b.below B5.out); have S5 := Lib.hid B5.out.size; clear ho5 hg5)
            | (at_builtin; refine wpList_app_ownD _ rfl (.tmp 62) (.tmp 63) rfl i0 hi hz0 hz1 hz2 w.heap.size (M.length + 0) n3 c3 w.heap.size A3 (M ++ Da) Ea _ rfl rfl O5.out HBR.out N2.out S5.out ?_; intro v6 w6 ho6 hg6; have O6 := Lib.hid ho6; have B6 := Lib.hid (B5.out.grown hg6 S5.out (fun j hj => (O5.out.lt j hj).1)); clear ho6 hg6))
          go_ret
          refine ⟨_, rfl, ?_, B6.out⟩
          have h6 := O6.out
          rw [HST2.out] at h6
          rw [HM.out, own_dep_length h6]
          exact h6
end Go.Proofs.Ytcmlnokfjbglaaa
end

section
namespace Go.Proofs.Ytcmlnokfjbglaaa
open Go.ChangeShapes Go.WideShapes Go.ChangeAt Go.RowKit
set_option linter.unusedVariables false

set_option maxRecDepth 20000 in
set_option maxHeartbeats 4000000 in
theorem walk_FnExactMergeDepends (A : Option Addr) (n cap : Nat) (D : List Dep) (A2 : Option Addr) (n2 c2 : Nat) (E : List Dep) (w : World) (hnc0 : n ≤ cap) (hcm0 : cap ≤ maxLen) (h0 : DepAt w w.heap.size A n D) (hl0 : ∀ d ∈ D, wfD d) (hnc1 : n2 ≤ c2) (hcm1 : c2 ≤ maxLen) (h1 : DepAt w w.heap.size A2 n2 E) (hl1 : ∀ d ∈ E, wfD d) :
    Calls Try.prog 5 #[.slice A n cap, .slice A2 n2 c2] w fun e w' => e = .returned (.bool true) ∧ Below w.heap.size w w' := by
  have hn90 : n ≤ 9223372036854775807 := Nat.le_trans hnc0 (Nat.le_trans hcm0 (by decide))
  have hLn0 := h0.1
  have HI := Lib.hid h0
  have hn91 : n2 ≤ 9223372036854775807 := Nat.le_trans hnc1 (Nat.le_trans hcm1 (by decide))
  have hLn1 := h1.1
  have HI2 := Lib.hid h1
  clear hnc0 hcm0 hl0 h0 hnc1 hcm1 hl1 h1
  subst hLn0
  subst hLn1
  by_cases hbig : (1048576 : Int) < (D.length : Int)
  · go_enter Try.func5, Try.ntmps5
    go_wp2_with fail
    refine (lawsSzD A D.length cap 1048576 _ hn90 (by omega) (by omega)).mono ?_
    rintro e w1 ⟨rfl, rfl⟩
    rw [if_pos hbig]
    go_wp2_with fail
    go_ret
    exact ⟨rfl, Below.refl _ _⟩
  · have hn : D.length ≤ 1048576 := by omega
    obtain ⟨q, hq⟩ : ∃ q : Int, (1048576 : Int) - (D.length : Int) = q := ⟨_, rfl⟩
    have hq0 : ¬ q < 0 := by omega
    have hq1 : q ≤ 1048576 := by omega
    by_cases hbig2 : q < (E.length : Int)
    · go_enter Try.func5, Try.ntmps5
      go_wp2_with fail
      refine (lawsSzD A D.length cap 1048576 _ hn90 (by omega) (by omega)).mono ?_
      rintro e w1 ⟨rfl, rfl⟩
      rw [if_neg (by omega), hq]
      clear hq
      go_wp2_with fail
      refine (lawsSzD A2 E.length c2 q _ hn91 (by omega) hq1).mono ?_
      rintro e w1 ⟨rfl, rfl⟩
      rw [if_pos hbig2]
      go_wp2_with fail
      go_ret
      exact ⟨rfl, Below.refl _ _⟩
    · have hn2 : E.length ≤ 1048576 := by omega
      obtain ⟨q2, hq2⟩ : ∃ q2 : Int, q - (E.length : Int) = q2 := ⟨_, rfl⟩
      have hq20 : ¬ q2 < 0 := by omega
      obtain ⟨res, hres⟩ : ∃ r, mergeD D E = r := ⟨_, rfl⟩
      have hrl : res.length ≤ 2097152 := by rw [← hres]; have := merge_length D E; omega
      go_enter Try.func5, Try.ntmps5
      go_wp2_with fail
      refine (lawsSzD A D.length cap 1048576 _ hn90 (by omega) (by omega)).mono ?_
      rintro e w1 ⟨rfl, rfl⟩
      rw [if_neg (by omega), hq]
      clear hq hbig
      go_wp2_with fail
      refine (lawsSzD A2 E.length c2 q _ hn91 (by omega) hq1).mono ?_
      rintro e w1 ⟨rfl, rfl⟩
      rw [if_neg (by omega), hq2]
      clear hq2 hbig2
      go_wp2_with fail
      have F0 := Lib.hid (LL.start w)
      refine (lawsToDepS A D.length cap D _ (F0.out.at HI.out) hn).mono ?_
      rintro e x1 ⟨g1, rfl, o1, b1⟩
      have F1 := Lib.hid (F0.out.bl b1)
      have T1 := Lib.hid (o1)
      clear o1 b1
      go_wp2_with fail
      refine (lawsToDepS A2 E.length c2 E _ (F1.out.at HI2.out) hn2).mono ?_
      rintro e x2 ⟨g2, rfl, o2, b2⟩
      have T1 := Lib.hid (own_below T1.out b2)
      have F2 := Lib.hid (F1.out.bl b2)
      have T2 := Lib.hid (o2)
      clear o2 b2
      go_wp2_with fail
      refine (specMerge (some ⟨g1, 0, none⟩) (some ⟨g2, 0, none⟩) D.length D.length E.length E.length D E _ (depAt_own T1.out (Nat.le_refl _)) (depAt_own T2.out (Nat.le_refl _)) (by omega) (by omega)).mono ?_
      rintro e x3 ⟨v0, rfl, o3, b3⟩
      rw [hres] at o3
      have F3 := Lib.hid (F2.out.add0 (r := rsD v0 res) o3 b3)
      clear o3 b3
      go_wp2_with fail
      refine (lawsToDepS A D.length cap D _ (F3.out.at HI.out) hn).mono ?_
      rintro e x4 ⟨g4, rfl, o4, b4⟩
      have F4 := Lib.hid (F3.out.add1 (r := rsD (.slice (some ⟨g4, 0, none⟩) D.length D.length) D) o4 b4)
      clear o4 b4
      go_wp2_with fail
      refine (lawsToDepS A2 E.length c2 E _ (F4.out.at HI2.out) hn2).mono ?_
      rintro e x5 ⟨g5, rfl, o5, b5⟩
      have F5 := Lib.hid (F4.out.add2 (r := rsD (.slice (some ⟨g5, 0, none⟩) E.length E.length) E) o5 b5)
      clear o5 b5
      go_wp2_with fail
      refine (implMerge (some ⟨g4, 0, none⟩) (some ⟨g5, 0, none⟩) D.length D.length E.length E.length D E _ (depAt_own F5.out.h1.1 (Nat.le_refl _)) (depAt_own F5.out.h2.1 (Nat.le_refl _)) (by omega) (by omega) (Nat.le_refl _) (Nat.le_refl _)).mono ?_
      rintro e x6 ⟨v8, rfl, o6, b6⟩
      rw [hres] at o6
      have F6 := Lib.hid (F5.out.add3 (r := rsD v8 res) o6 b6)
      clear o6 b6
      go_wp2_with fail
      refine (lawsEqOwnD v8 v0 _ _ res _ F6.out.h3.1 F6.out.h0.1 (by omega)).mono ?_
      rintro e x7 ⟨rfl, g7⟩
      have F7 := Lib.hid (F6.out.gb g7)
      clear g7
      go_wp2_with fail
      refine (lawsToDepS A D.length cap D _ (F7.out.at HI.out) hn).mono ?_
      rintro e x8 ⟨g8, rfl, o8, b8⟩
      have F8 := Lib.hid (F7.out.bl b8)
      have T8 := Lib.hid (o8)
      clear o8 b8
      go_wp2_with fail
      refine (lawsEqD (some ⟨g4, 0, none⟩) (some ⟨g8, 0, none⟩) D.length D.length D.length D _ (depAt_own F8.out.h1.1 (Nat.le_refl _)) (depAt_own T8.out (Nat.le_refl _)) (by omega)).mono ?_
      rintro e x9 ⟨rfl, g9⟩
      have F9 := Lib.hid (F8.out.gb g9)
      clear g9 T8
      go_wp2_with fail
      refine (lawsToDepS A2 E.length c2 E _ (F9.out.at HI2.out) hn2).mono ?_
      rintro e x10 ⟨g10, rfl, o10, b10⟩
      have F10 := Lib.hid (F9.out.bl b10)
      have T10 := Lib.hid (o10)
      clear o10 b10
      go_wp2_with fail
      refine (lawsEqD (some ⟨g5, 0, none⟩) (some ⟨g10, 0, none⟩) E.length E.length E.length E _ (depAt_own F10.out.h2.1 (Nat.le_refl _)) (depAt_own T10.out (Nat.le_refl _)) (by omega)).mono ?_
      rintro e x11 ⟨rfl, g11⟩
      have F11 := Lib.hid (F10.out.gb g11)
      clear g11 T10
      go_wp2_with fail
      refine (lawsMarkD _ _ D.length 1 D _ F11.out.h1.1 (by omega)).mono ?_
      rintro e x12 ⟨rfl, o12, g12⟩
      have F12 := Lib.hid (F11.out.set1 (r := rsD (.slice (some ⟨g4, 0, none⟩) D.length D.length) (marksD 1 D.length)) rfl (cast_deps o12) g12)
      clear o12 g12
      obtain ⟨k1, hk1⟩ : ∃ k, 1 + D.length * 2 = k := ⟨_, rfl⟩
      have hkn1 : ¬ (k1 : Int) < 0 := by omega
      have hkm1 : k1 ≤ 2097153 := by omega
      rw [hk1]
      clear hk1
      go_wp2_with fail
      refine (lawsMarkD _ _ E.length k1 E _ F12.out.h2.1 (by omega)).mono ?_
      rintro e x13 ⟨rfl, o13, g13⟩
      have F13 := Lib.hid (F12.out.set2 (r := rsD (.slice (some ⟨g5, 0, none⟩) E.length E.length) (marksD k1 E.length)) rfl (cast_deps o13) g13)
      clear o13 g13
      obtain ⟨k2, hk2⟩ : ∃ k, k1 + E.length * 2 = k := ⟨_, rfl⟩
      have hkn2 : ¬ (k2 : Int) < 0 := by omega
      have hkm2 : k2 ≤ 4194305 := by omega
      rw [hk2]
      clear hk2
      go_wp2_with fail
      refine (lawsEqOwnD v8 v0 _ _ res _ F13.out.h3.1 F13.out.h0.1 (by omega)).mono ?_
      rintro e x14 ⟨rfl, g14⟩
      have F14 := Lib.hid (F13.out.gb g14)
      clear g14
      go_wp2_with fail
      refine (lawsMarkD v8 _ res.length 1 res _ F14.out.h3.1 (by omega)).mono ?_
      rintro e x15 ⟨rfl, o15, g15⟩
      have F15 := Lib.hid (F14.out.set3 (r := rsD v8 (marksD 1 res.length)) rfl (cast_deps o15) g15)
      clear o15 g15
      obtain ⟨z1, hz1⟩ : ∃ k, 1 + res.length * 2 = k := ⟨_, rfl⟩
      have hzn : ¬ (z1 : Int) < 0 := by omega
      have hZ := Lib.hid hz1
      rw [hz1]
      clear hz1
      go_wp2_with fail
      refine (lawsHeldOwnD v8 _ res.length 1 _ (by have h := F15.out.h3.1; have e := marksD_length 1 res.length; unfold rsD at h; dsimp only at h; rw [e] at h; exact h) (by omega)).mono ?_
      rintro e x16 ⟨rfl, g16⟩
      have F16 := Lib.hid (F15.out.gb g16)
      clear g16
      rw [hZ.out]
      go_wp2_with fail
      refine (lawsToDepS A D.length cap D _ (F16.out.at HI.out) hn).mono ?_
      rintro e x17 ⟨g17, rfl, o17, b17⟩
      have F17 := Lib.hid (F16.out.bl b17)
      have T17 := Lib.hid (o17)
      clear o17 b17
      go_wp2_with fail
      refine (lawsToDepS A2 E.length c2 E _ (F17.out.at HI2.out) hn2).mono ?_
      rintro e x18 ⟨g18, rfl, o18, b18⟩
      have T17 := Lib.hid (own_below T17.out b18)
      have F18 := Lib.hid (F17.out.bl b18)
      have T18 := Lib.hid (o18)
      clear o18 b18
      go_wp2_with fail
      refine (implMerge (some ⟨g17, 0, none⟩) (some ⟨g18, 0, none⟩) D.length D.length E.length E.length D E _ (depAt_own T17.out (Nat.le_refl _)) (depAt_own T18.out (Nat.le_refl _)) (by omega) (by omega) (Nat.le_refl _) (Nat.le_refl _)).mono ?_
      rintro e x19 ⟨v9, rfl, o19, b19⟩
      rw [hres] at o19
      have R9 := Lib.hid o19
      have F19 := Lib.hid (F18.out.bl b19)
      clear o19 b19
      go_wp2_with fail
      refine (lawsEqOwnD v9 v0 _ _ res _ R9.out F19.out.h0.1 (by omega)).mono ?_
      rintro e x20 ⟨rfl, g20⟩
      have F20 := Lib.hid (F19.out.gb g20)
      clear g20
      go_wp2_with fail
      refine (lawsHeldOwnD v8 _ res.length 1 _ (by have h := F20.out.h3.1; have e := marksD_length 1 res.length; unfold rsD at h; dsimp only at h; rw [e] at h; exact h) (by omega)).mono ?_
      rintro e x21 ⟨rfl, g21⟩
      have F21 := Lib.hid (F20.out.gb g21)
      clear g21
      rw [hZ.out]
      go_wp2_with fail
      go_ret
      exact ⟨rfl, F21.out.lb⟩
end Go.Proofs.Ytcmlnokfjbglaaa
end
