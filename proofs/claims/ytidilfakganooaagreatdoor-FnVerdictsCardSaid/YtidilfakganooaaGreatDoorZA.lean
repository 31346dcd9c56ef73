/- What is proved here: small facts on worlds, owned rows and byte rows that the other texts of this seat use; nothing of the program; small facts on rows of the call's own, on texts as cells and on the bytes of a text; nothing of the program; small facts on rows of integers of the call's own; nothing of the program; small facts on slices of integers that can be read, and new rows; nothing of the program; what the laws' copy of a list and their comparison of two lists return; only new blocks are written; what the laws' marks in a list and their search for marks do; what the laws' count of a slice of integers returns; nothing is written; the laws' helpers for tables (size, copy, compare, mark); only the marked row and new blocks are written; the laws' marks on a table; only the marked row and new blocks are written; the laws' copy of a grid is the same grid, for all grids; only new blocks are written; the laws' helpers for meshes (size, copy, compare, mark); only the marked row and new blocks are written; the laws' marks on a mesh; only the marked row and new blocks are written; the numbers that the grid functions return, as mathematics; nothing of the program; the numbers that the mesh functions return, as mathematics; nothing of the program; What is stated here: a mesh as the cells of a block, and a mesh whose first broken channels are good; nothing of the program; small facts on new lists of numbers; nothing of the program; the broken channels of a valid mesh are numbers of 64 bits; nothing of the program; small facts on a law's mesh and table as blocks, and on the copies that it hands to the program; nothing of the program; the numbers that the functions on routing tables return, as mathematics; nothing of the program; small facts on a square of 16 rows of 16 numbers that is written pair by pair, on its greatest number, and on walks of a table; nothing of the program; what the program's grid functions return, for all arguments; only new blocks are written; how a walk loads and stores a whole array of 256 numbers that is known as a block; nothing of the program but its types; the column and the row that the program finds for a node that exists; only new blocks are written; what the program's NextNode and its end of a channel return, for all arguments (the channel: of 64 bits); only new blocks are written; what the program's MeshOk returns for numbers of 64 bits; only new blocks are written; what the program's table of ports holds for a mesh and a table of the right size, and what it is otherwise; only new blocks are written; small facts on a mesh and a table as blocks, and on a square that is laid into a new block; nothing of the program; the standard tables, as mathematics: all of them are valid and minimal, and their longest walk is the diameter; nothing of the program; lists of dependencies (pairs of channels) as mathematics: their order, where an element goes into an ascending list, merging, shifting, and their cells; nothing of the program; the lists that the functions on routes return, as mathematics; nothing of the program; a neighbor has the node as its neighbor at the opposite port, at the distance 1; as mathematics, nothing of the program; a route turned back leads back along the same nodes, and turned back twice it is the route again; a table's walk is a route that visits no node twice; as mathematics, nothing of the program. -/
import Derived.Test.YtidilfakganooaaGreatDoorRows
import Derived.WalkKit
import Derived.ProofKit
import Derived.OpenShut
import Derived.Below
import Derived.BigQuiet
import Derived.Deep.QuietTactic
import Derived.Deep.Draws
import Derived.Laws.AppendOwn
import Derived.Lib.Hide
import Derived.IntWalk
import Derived.StillTailTactics
import Derived.OwnWalk
import Derived.Laws.IdiomStrings
import Derived.Lib.BufferRead
import Derived.Deep.AppendLies
import Derived.Outline
import Derived.Deep.RegionHeld3
import Derived.Deep.DrawnRows
import Derived.Laws.OwnMore
import Derived.Laws.Rows
import Derived.Laws.Tables
import Derived.Laws.ResultCell
section
namespace Go.Proofs.YtidilfakganooaaGreatDoor
open Go.ChangeShapes Go.WideShapes Go.ChangeAt Go.RowKit
set_option linter.unusedVariables false

theorem ret_int64 {a b : Int} (h : a = b) : Ending.returned (.int .i64 a) = .returned (.int .i64 b) := by rw [h]
theorem ret_bool {a b : Bool} (h : a = b) : Ending.returned (.bool a) = .returned (.bool b) := by rw [h]

/-- No cell is held: for a drawn region that loads nothing. -/
def Tru (w : World) : Prop := w = w
theorem tru (w : World) : Tru w := rfl
/-- A contract that states the world on the left, turned for a still region. -/
theorem still_of {P : Program} {f : FuncId} {args : Array Value} {w : World} {v : Value} (h : Calls P f args w fun e w' => e = .returned v ∧ w = w') : Calls P f args w fun e w' => e = .returned v ∧ w' = w :=
  h.mono fun _ _ ⟨he, hw⟩ => ⟨he, hw.symm⟩

theorem gb_refl (w : World) (row : Option Nat) : w.grownBy w row := ⟨rfl, rfl, rfl, Nat.le_refl _, fun _ _ _ => rfl⟩
theorem gb_trans {a b c : World} {row : Option Nat} (h : a.grownBy b row) (k : b.grownBy c row) : a.grownBy c row :=
  ⟨k.os.trans h.os, k.tape.trans h.tape, k.output.trans h.output, Nat.le_trans h.size k.size, fun i hi hne => (k.block i (Nat.lt_of_lt_of_le hi h.size) hne).trans (h.block i hi hne)⟩
theorem gb_drewN {a w : World} {row : Option Nat} (h : a.grownBy w row) (n : Nat) : a.grownBy (w.drewN n) row := ⟨h.os, h.tape, h.output, h.size, h.block⟩
theorem gb_drew {a w : World} {row : Option Nat} (h : a.grownBy w row) : a.grownBy w.drew row := ⟨h.os, h.tape, h.output, h.size, h.block⟩
theorem gb_alloc {a w : World} {row : Option Nat} (h : a.grownBy w row) (o : Obj) : a.grownBy (w.alloc o) row :=
  ⟨h.os, h.tape, h.output, Nat.le_trans h.size (by simp), fun i hi hne => (Below.heap_alloc w o i (Nat.lt_of_lt_of_le hi h.size)).trans (h.block i hi hne)⟩
theorem gb_setCell {a w : World} {row : Option Nat} (h : a.grownBy w row) {p : Addr} (hp : some p.block = row ∨ a.heap.size ≤ p.block) (u : Value) : a.grownBy (w.setCell p u) row :=
  ⟨h.os, h.tape, h.output, by simpa [World.setCell] using h.size, fun i hi hne => (Below.heap_setCell w p u i (by
    rintro rfl
    rcases hp with hp | hp
    · exact hne hp
    · omega)).trans (h.block i hi hne)⟩
theorem gb_of_below {a w : World} (h : Below a.heap.size a w) (row : Option Nat) : a.grownBy w row := ⟨h.os, h.tape, h.output, h.size, fun i hi _ => h.block i hi⟩
theorem gb_below {B : Nat} {w w' : World} {g : Nat} (h : w.grownBy w' (some g)) (hB : B ≤ w.heap.size) (hg : B ≤ g) : Below B w w' :=
  ⟨h.os, h.tape, h.output, h.size, fun i hi => h.block i (by omega) (fun e => by cases e; omega)⟩
theorem gb_below_none {B : Nat} {w w' : World} (h : w.grownBy w' none) (hB : B ≤ w.heap.size) : Below B w w' :=
  ⟨h.os, h.tape, h.output, h.size, fun i hi => h.block i (by omega) (fun e => by cases e)⟩
theorem below_drewN {B : Nat} {a w : World} (h : Below B a w) (n : Nat) : Below B a (w.drewN n) := ⟨h.os, h.tape, h.output, h.size, h.block⟩

/-- A block of cells that the call may write, known whole. -/
def Blk (w : World) (g : Nat) (t : TypeId) (cs : Array Value) : Prop := w.heap[g]? = some (.cells cs t (0, 0))
section
variable {w w' : World} {g : Nat} {t : TypeId} {cs : Array Value}
theorem Blk.lt (h : Blk w g t cs) : g < w.heap.size := by
  rcases Nat.lt_or_ge g w.heap.size with hlt | hge
  · exact hlt
  · unfold Blk at h; rw [Array.getElem?_eq_none hge] at h; cases h
theorem Blk.cell (h : Blk w g t cs) (i : Nat) : w.cell? ⟨g, i, none⟩ = cs[i]? := cell_of_row w g i cs t (0, 0) h
theorem Blk.frozen (h : Blk w g t cs) (i : Nat) : w.frozen? ⟨g, i, none⟩ = false := by
  unfold Blk at h
  simp [World.frozen?, h]
theorem Blk.new (w : World) (t : TypeId) (cs : Array Value) : Blk (w.alloc (.cells cs t)) w.heap.size t cs := heap_alloc_new w _
theorem Blk.drewN (h : Blk w g t cs) (n : Nat) : Blk (w.drewN n) g t cs := h
theorem Blk.alloc (h : Blk w g t cs) (o : Obj) : Blk (w.alloc o) g t cs := (Below.heap_alloc w o g h.lt).trans h
theorem Blk.set_ (h : Blk w g t cs) (i : Nat) (u : Value) : Blk (w.setCell ⟨g, i, none⟩ u) g t (cs.setIfInBounds i u) := by
  unfold Blk at h ⊢
  simp [World.setCell, Array.getElem?_modify, h]
theorem Blk.far (h : Blk w g t cs) {p : Addr} (hp : g ≠ p.block) (u : Value) : Blk (w.setCell p u) g t cs := (Below.heap_setCell w p u g hp).trans h
theorem Blk.grown {row : Option Nat} (h : Blk w g t cs) (hb : w.grownBy w' row) (hg : some g ≠ row) : Blk w' g t cs := (hb.block g h.lt hg).trans h
theorem Blk.below {B : Nat} (h : Blk w g t cs) (hb : Below B w w') (hg : g < B) : Blk w' g t cs := (hb.block g hg).trans h
theorem own_ne {base : Nat} {e : TypeId} {size n : Nat} {v : Value} {xs : List Value} (h : w.ownsRow base e size v n xs) (hg : Blk w g t cs) (hne : e ≠ t) : v.ownBlock ≠ some g := by
  rcases h.2 with ⟨rfl, _⟩ | ⟨g', cap, cur, rfl, _, hh, _⟩
  · simp [Value.ownBlock]
  · intro he
    have : g' = g := by simpa [Value.ownBlock] using he
    subst this
    unfold Blk at hg
    rw [hg] at hh
    injection hh with hh
    injection hh with _ ht
    exact hne ht.symm
end

/-- A slice of bytes that came in: its first n cells are bytes, in a block below B. -/
def ByteRow (w : World) (B : Nat) (A : Option Addr) (n : Nat) : Prop :=
  0 < n → ∃ b off, A = some ⟨b, off, none⟩ ∧ b < B ∧ ∀ k, k < n → ∃ v : Int, 0 ≤ v ∧ v ≤ 255 ∧ w.cell? ⟨b, off + k, none⟩ = some (.int .u8 v)
theorem ByteRow.keep {w w' : World} {B n : Nat} {A : Option Addr} (h : ByteRow w B A n) (hk : ∀ p : Addr, p.block < B → w'.cell? p = w.cell? p) : ByteRow w' B A n := fun hn => by
  obtain ⟨b, off, hA, hb, hc⟩ := h hn
  refine ⟨b, off, hA, hb, fun k hkn => ?_⟩
  obtain ⟨v, h0, h1, hv⟩ := hc k hkn
  exact ⟨v, h0, h1, (hk _ hb).trans hv⟩
theorem ByteRow.more {w : World} {B B' n : Nat} {A : Option Addr} (h : ByteRow w B A n) (hB : B ≤ B') : ByteRow w B' A n := fun hn => by
  obtain ⟨b, off, hA, hb, hc⟩ := h hn
  exact ⟨b, off, hA, by omega, hc⟩

theorem byteRow_of {w : World} {n : Nat} (x : Addr) (zs : List Int) (hl : n ≤ zs.length) (hcell : ∀ i, i < zs.length → w.cell? (x.add i) = some (.int .u8 (zs.getD i 0))) (hwz : ∀ z ∈ zs, (Lit.int .u8 z).wf = true) :
    ByteRow w w.heap.size (some x) n := fun hn => by
  obtain ⟨b, off, spot⟩ := x
  have hc := hcell 0 (by omega)
  have hspot : spot = none := by simpa [Addr.add] using World.cell?_spot hc
  subst hspot
  have hlt : b < w.heap.size := by simpa [Addr.add] using World.block_lt_of_cell? _ _ hc
  refine ⟨b, off, rfl, hlt, fun k hk => ?_⟩
  have hk' : k < zs.length := by omega
  have hb := bounds_u8 (hwz (zs.getD k 0) (by simp [List.getD, List.getElem?_eq_getElem hk']))
  exact ⟨zs.getD k 0, hb.1, hb.2, by simpa [Addr.add_lit] using hcell k hk'⟩

theorem band_u (x : Int) (m : Nat) (hm : m ≤ 2147483647) : 0 ≤ bits .and .i64 x (m : Int) ∧ bits .and .i64 x (m : Int) ≤ m := by
  have h : ((BitVec.ofInt IntKind.i64.bits x) &&& (BitVec.ofInt IntKind.i64.bits (m : Int))).toNat ≤ m := by
    rw [BitVec.toNat_and]
    refine Nat.le_trans Nat.and_le_right ?_
    simp [IntKind.bits]
    omega
  have e : bits .and .i64 x (m : Int) = (((BitVec.ofInt IntKind.i64.bits x) &&& (BitVec.ofInt IntKind.i64.bits (m : Int))).toNat : Int) := by
    show IntKind.i64.wrap (((BitVec.ofInt IntKind.i64.bits x) &&& (BitVec.ofInt IntKind.i64.bits (m : Int))).toNat : Int) = _
    exact IntWalk.i64_in _ (by omega)
  rw [e]
  omega

/-- Bytes as the cells of a row. -/
def bytesV (l : List UInt8) : List Value := l.map fun c => Value.int .u8 (c.toNat : Int)
theorem bytesV_append (a b : List UInt8) : bytesV (a ++ b) = bytesV a ++ bytesV b := by simp [bytesV]
theorem bytesV_length (a : List UInt8) : (bytesV a).length = a.length := by simp [bytesV]

theorem take_snoc (s : ByteArray) (k : Nat) (h : k < s.size) : s.data.toList.take (k + 1) = s.data.toList.take k ++ [s[k]] := by
  rw [List.take_succ_eq_append_getElem (by simpa using h)]; rfl

end Go.Proofs.YtidilfakganooaaGreatDoor
end

section
namespace Go.Proofs.YtidilfakganooaaGreatDoor
open Go.ChangeShapes Go.WideShapes Go.ChangeAt Go.RowKit
set_option linter.unusedVariables false

theorem own_form {w : World} {base : Nat} {e : TypeId} {size n : Nat} {v : Value} {xs : List Value} (h : w.ownsRow base e size v n xs) :
    ∃ A cap, v = .slice A n cap ∧ (0 < n → ∃ g, A = some ⟨g, 0, none⟩) := by
  rcases h.2 with ⟨rfl, rfl⟩ | ⟨g, cap, cur, rfl, _⟩
  · exact ⟨none, 0, rfl, fun h => absurd h (by omega)⟩
  · exact ⟨_, cap, rfl, fun _ => ⟨g, rfl⟩⟩
theorem own_le {w : World} {base : Nat} {e : TypeId} {size n : Nat} {v : Value} {xs : List Value} (h : w.ownsRow base e size v n xs) : n ≤ maxLen := by
  rcases h.2 with ⟨rfl, rfl⟩ | ⟨g, cap, cur, rfl, _, _, h1, h2, _⟩
  · exact Nat.zero_le _
  · exact Nat.le_trans h1 h2
theorem own_drewN {w : World} {base : Nat} {e : TypeId} {size n : Nat} {v : Value} {xs : List Value} (h : w.ownsRow base e size v n xs) (m : Nat) : (w.drewN m).ownsRow base e size v n xs := h

def strsV (l : List ByteArray) : List Value := l.map Value.string
theorem strsV_append (a b : List ByteArray) : strsV (a ++ b) = strsV a ++ strsV b := by simp [strsV]
def byteOf (s : ByteArray) (i : Nat) : Nat := (s.data.toList.getD i 0).toNat
theorem byteOf_lt (s : ByteArray) (i : Nat) : byteOf s i < 256 := (s.data.toList.getD i 0).toNat_lt
theorem byteOf_get (s : ByteArray) (i : Nat) (h : i < s.size) : s[i].toNat = byteOf s i := by
  unfold byteOf
  rw [List.getD_eq_getElem?_getD, List.getElem?_eq_getElem (by simpa using h)]; rfl
def RetS (s : ByteArray) (w : World) (e : Ending) (w' : World) : Prop := e = .returned (.string s) ∧ w.grownBy w' none

def RetB (b : Bool) (w : World) (e : Ending) (w' : World) : Prop := e = .returned (.bool b) ∧ w.grownBy w' none
def RetI (k : Int) (row : Option Nat) (w : World) (e : Ending) (w' : World) : Prop := e = .returned (.int .i64 k) ∧ w.grownBy w' row

theorem gb_of_none {a b : World} (h : a.grownBy b none) (row : Option Nat) : a.grownBy b row := ⟨h.os, h.tape, h.output, h.size, fun i hi _ => h.block i hi (by simp)⟩
theorem strs_cell {w : World} {base : Nat} {n g cap : Nat} {l : List ByteArray} (h : w.ownsRow base 9 1 (.slice (some ⟨g, 0, none⟩) n cap) n (strsV l)) (k : Nat) (hk : k < n) (hl : l.length = n) :
    w.cell? ⟨g, k, none⟩ = some (.string l[k]) := by
  rw [h.cellAt k (by omega)]
  simp [strsV]

/-- A row of the call's own stays over a call that writes new blocks alone. -/
theorem own_below {w w' : World} {base : Nat} {e : TypeId} {size n : Nat} {v : Value} {xs : List Value} (h : w.ownsRow base e size v n xs) (hb : Below w.heap.size w w') : w'.ownsRow base e size v n xs :=
  h.kept (gb_of_below hb none) (by cases hv : v.ownBlock <;> simp)
theorem own_none {w w' : World} {base : Nat} {e : TypeId} {size n : Nat} {v : Value} {xs : List Value} (h : w.ownsRow base e size v n xs) (hb : w.grownBy w' none) : w'.ownsRow base e size v n xs :=
  h.kept hb (by cases hv : v.ownBlock <;> simp)
theorem own_apart {w w' : World} {b1 b2 : Nat} {e1 e2 : TypeId} {s1 s2 n1 n2 : Nat} {v1 v2 : Value} {x1 x2 : List Value} (h1 : w.ownsRow b1 e1 s1 v1 n1 x1) (hlt : ∀ k, v1.ownBlock = some k → k < b2) (h2 : w.ownsRow b2 e2 s2 v2 n2 x2) (hg : w.grownBy w' v2.ownBlock) : w'.ownsRow b1 e1 s1 v1 n1 x1 :=
  h1.kept hg (by
    cases hv : v1.ownBlock with
    | none => exact .inl rfl
    | some k => exact .inr (fun e => by have := hlt k hv; have := (h2.lt k e.symm).1; omega))
theorem info_str : (Tryz.prog.info? 9).map (fun i => (i.zero, i.size, i.bytes)) = some (some (.string ⟨#[]⟩), 1, 16) := by kernel_rfl

end Go.Proofs.YtidilfakganooaaGreatDoor
end

section
namespace Go.Proofs.YtidilfakganooaaGreatDoor
open Go.ChangeShapes Go.WideShapes Go.ChangeAt Go.RowKit
set_option linter.unusedVariables false

def intsV (l : List Int) : List Value := l.map fun x => Value.int .i64 x
theorem intsV_append (a b : List Int) : intsV (a ++ b) = intsV a ++ intsV b := by simp [intsV]
theorem intsV_length (a : List Int) : (intsV a).length = a.length := by simp [intsV]
theorem info_int : (Tryz.prog.info? 3).map (fun i => (i.zero, i.size, i.bytes)) = some (some (.int .i64 0), 1, 8) := by kernel_rfl
theorem ints_cell {w : World} {base n g cap : Nat} {l : List Int} (h : w.ownsRow base 3 1 (.slice (some ⟨g, 0, none⟩) n cap) n (intsV l)) (k : Nat) (x : Int) (hk : l[k]? = some x) (hl : l.length = n) :
    w.cell? ⟨g, k, none⟩ = some (.int .i64 x) := by
  have hlt : k < n := by
    rcases Nat.lt_or_ge k n with h1 | h1
    · exact h1
    · rw [List.getElem?_eq_none (by omega)] at hk; cases hk
  rw [h.cellAt k (by omega)]
  simp [intsV, hk]
end Go.Proofs.YtidilfakganooaaGreatDoor
end

section
namespace Go.Proofs.YtidilfakganooaaGreatDoor
open Go.ChangeShapes Go.WideShapes Go.ChangeAt Go.RowKit
set_option linter.unusedVariables false

/-- The slice's n elements are the numbers of L, in a block below B. -/
def IntAt (w : World) (B : Nat) (A : Option Addr) (n : Nat) (L : List Int) : Prop :=
  L.length = n ∧ (0 < n → ∃ b off, A = some ⟨b, off, none⟩ ∧ b < B ∧ ∀ (k : Nat) (x : Int), L[k]? = some x → w.cell? ⟨b, off + k, none⟩ = some (.int .i64 x))
section
variable {w w' : World} {B B' n : Nat} {A : Option Addr} {L : List Int}
theorem IntAt.keep (h : IntAt w B A n L) (hk : ∀ p : Addr, p.block < B → w'.cell? p = w.cell? p) : IntAt w' B A n L := ⟨h.1, fun hn => by
  obtain ⟨b, off, hA, hb, hc⟩ := h.2 hn
  exact ⟨b, off, hA, hb, fun k x hx => (hk _ hb).trans (hc k x hx)⟩⟩
theorem IntAt.more (h : IntAt w B A n L) (hB : B ≤ B') : IntAt w B' A n L := ⟨h.1, fun hn => by
  obtain ⟨b, off, hA, hb, hc⟩ := h.2 hn
  exact ⟨b, off, hA, by omega, hc⟩⟩
theorem IntAt.grown {row : Option Nat} (h : IntAt w B A n L) (hB : B ≤ w.heap.size) (hg : w.grownBy w' row) (hr : ∀ k, row = some k → B ≤ k) : IntAt w' B A n L :=
  h.keep fun p hp => World.cell?_of_block (hg.block p.block (by omega) (fun e => by have := hr _ e.symm; omega))
theorem IntAt.none (h : IntAt w B A n L) (hB : B ≤ w.heap.size) (hg : w.grownBy w' none) : IntAt w' B A n L := h.grown hB hg (fun k e => by cases e)
theorem IntAt.below (h : IntAt w B A n L) (hb : Below B w w') : IntAt w' B A n L := h.keep fun p hp => World.cell?_of_block (hb.block p.block hp)
theorem IntAt.nil (w : World) (B : Nat) (A : Option Addr) : IntAt w B A 0 [] := ⟨rfl, fun h => by omega⟩
/-- One element. -/
theorem IntAt.at (h : IntAt w B A n L) (k : Nat) (hk : k < n) : ∃ b off, A = some ⟨b, off, Option.none⟩ ∧ b < B ∧ w.cell? ⟨b, off + k, Option.none⟩ = some (.int .i64 (L.getD k 0)) := by
  obtain ⟨b, off, hA, hb, hc⟩ := h.2 (by omega)
  have hl := h.1
  exact ⟨b, off, hA, hb, hc k _ (by rw [List.getD_eq_getElem?_getD, List.getElem?_eq_getElem (by omega)]; rfl)⟩
end
theorem alloc_size (w : World) (o : Obj) : (w.alloc o).heap.size = w.heap.size + 1 := by simp
theorem own_less {w : World} {b1 b2 : Nat} {e : TypeId} {size n : Nat} {v : Value} {xs : List Value} (h : w.ownsRow b2 e size v n xs) (hb : b1 ≤ b2) : w.ownsRow b1 e size v n xs :=
  ⟨h.1, h.2.imp id fun ⟨g, cap, cur, e1, e2, rest⟩ => ⟨g, cap, cur, e1, Nat.le_trans hb e2, rest⟩⟩

/-- A row of the call's own, read. -/
theorem intAt_own {w : World} {base n B cap : Nat} {A : Option Addr} {L : List Int} (h : w.ownsRow base 3 1 (.slice A n cap) n (intsV L)) (hl : L.length = n) (hB : w.heap.size ≤ B) : IntAt w B A n L :=
  ⟨hl, fun hn => by
    obtain ⟨A', cap', hv, ha⟩ := own_form h
    obtain ⟨g, hg⟩ := ha hn
    obtain ⟨rfl, rfl⟩ : A = A' ∧ cap = cap' := by injection hv with h1 h2 h3; exact ⟨h1, h3⟩
    subst hg
    exact ⟨g, 0, rfl, by have := (h.lt g rfl).2; omega, fun k x hx => by rw [Nat.zero_add]; exact ints_cell h k x hx hl⟩⟩
theorem own_ints_length {w : World} {base n : Nat} {v : Value} {L : List Int} (h : w.ownsRow base 3 1 v n (intsV L)) : L.length = n := by
  have := h.1
  rw [intsV_length] at this
  omega
theorem intsV_set (l : List Int) (j : Nat) (x : Int) : (intsV l).set j (.int .i64 x) = intsV (l.set j x) := by simp [intsV, List.map_set]
theorem madeInts (n : Nat) : (madeCells (Value.int .i64 0).cells n).toList = intsV (List.replicate n 0) := by
  show (madeCells #[Value.int .i64 0] n).toList = _
  rw [toList_madeCells_one]
  simp [intsV]

end Go.Proofs.YtidilfakganooaaGreatDoor
end

section
namespace Go.Proofs.YtidilfakganooaaGreatDoor
open Go.ChangeShapes Go.WideShapes Go.ChangeAt Go.RowKit
set_option linter.unusedVariables false

/-- The first k numbers of L, then zeros. -/
def copied (L : List Int) (n k : Nat) : List Int := (List.range n).map fun t => if t < k then L.getD t 0 else 0
theorem copied_zero (L : List Int) (n : Nat) : copied L n 0 = List.replicate n 0 := by
  refine List.ext_getElem (by simp [copied]) fun i h1 h2 => ?_
  simp [copied]
theorem copied_succ (L : List Int) (n k : Nat) : (copied L n k).set k (L.getD k 0) = copied L n (k + 1) := by
  refine List.ext_getElem (by simp [copied]) fun i h1 h2 => ?_
  rw [List.getElem_set]
  by_cases e : k = i
  · subst e; simp [copied]
  · simp only [e, if_false, copied, List.getElem_map, List.getElem_range]
    by_cases hi : i < k
    · rw [if_pos hi, if_pos (by omega)]
    · rw [if_neg hi, if_neg (by omega)]
theorem copied_next (L : List Int) (n k : Nat) (x : Int) (h : L.getD k 0 = x) : (copied L n k).set k x = copied L n (k + 1) := by rw [← h]; exact copied_succ L n k
theorem copied_all (L : List Int) (n : Nat) (h : L.length = n) : copied L n n = L := by
  refine List.ext_getElem (by simp [copied, h]) fun i h1 h2 => ?_
  have : i < n := by omega
  simp [copied, this, List.getElem?_eq_getElem h2]
theorem copied_length (L : List Int) (n k : Nat) : (copied L n k).length = n := by simp [copied]

/-- A new row that holds the numbers of L. -/
def NewInts (L : List Int) (w : World) (e : Ending) (w' : World) : Prop :=
  ∃ g, e = .returned (.slice (some ⟨g, 0, none⟩) L.length L.length) ∧ w'.ownsRow w.heap.size 3 1 (.slice (some ⟨g, 0, none⟩) L.length L.length) L.length (intsV L) ∧ Below w.heap.size w w'
def CopyAt (w : World) (n : Nat) (L : List Int) (k : Nat) (v : Value) (wr : World) : Prop := wr.ownsRow w.heap.size 3 1 v n (intsV (copied L n k)) ∧ Below w.heap.size w wr

theorem lawsToIntS (A : Option Addr) (n cap : Nat) (L : List Int) (w : World) (h : IntAt w w.heap.size A n L) (hn : n ≤ 1048576) :
    Calls Tryz.prog 46 #[.slice A n cap] w (NewInts L w) := by
  obtain ⟨i0, hi, hz0, hz1, hz2⟩ := info_parts info_int
  have hl := h.1
  have HI := Lib.hid h
  clear h
  go_enter Tryz.func46, Tryz.ntmps46
  go_wp2_with (at_make; refine wpList_make_full _ rfl _ _ 26 rfl w.heap.size 3 i0 (.int .i64 0) 1 Tryz.underlying26 hi hz0 hz1 .i64 .i64 _ _ n rfl rfl (by omega) (by omega) (by rw [hz2]; omega) (by unfold maxLen; omega) (Nat.le_refl _) ?_; intro w0 hown0 hgrow0)
  have hz : (madeCells (Value.int .i64 0).cells (n * 1)).toList = intsV (copied L n 0) := by rw [Nat.mul_one, copied_zero]; exact madeInts n
  have X : CopyAt w n L 0 (.slice (some ⟨w.heap.size, 0, none⟩) n n) w0 := ⟨by rw [← hz]; exact hown0, gb_below_none hgrow0 (Nat.le_refl _)⟩
  have HX := Lib.hid X
  clear X hz hown0 hgrow0
  go_loopw [4] (fun i wr => ∃ k : Nat, k ≤ n ∧ i = .int .i64 (k : Int) ∧ CopyAt w n L k (.slice (some ⟨w.heap.size, 0, none⟩) n n) wr) (fun i _ => n - (intOf i).toNat)
  case atStart => exact ⟨0, Nat.zero_le _, rfl, HX.out⟩
  case round =>
    obtain ⟨k, hk, rfl, hown, hbel⟩ := hrel
    have HB := Lib.hid hbel
    by_cases hlt : k < n
    · have hc := hown.cellAt k (by omega)
      obtain ⟨u0, hu0⟩ : ∃ u, (intsV (copied L n k))[k]? = some u := ⟨_, List.getElem?_eq_getElem (by rw [intsV_length, copied_length]; exact hlt)⟩
      rw [hu0] at hc
      obtain ⟨b, off, rfl, hbB, hcell⟩ := (HI.out.below hbel).at k hlt
      obtain ⟨x, hx⟩ : ∃ x, L.getD k 0 = x := ⟨_, rfl⟩
      rw [hx] at hcell
      have hf := hown.frozenAt k
      obtain ⟨hown2, hg2⟩ := hown.stored k (.int .i64 x)
      rw [intsV_set, copied_next L n k x hx] at hown2
      have hne : ¬ w.heap.size = b := by omega
      have HO := Lib.hid hown2
      have HG := Lib.hid hg2
      clear hown hown2 hg2 hbel hu0 hx
      go_wp2_with fail
      go_roundw
      case rel => exact ⟨k + 1, by omega, by go_num, HO.out, HB.out.grown HG.out HB.out.size (fun j e => by cases e; exact Nat.le_refl _)⟩
      case measure => simp [intOf]; omega
    · obtain rfl : k = n := by omega
      have HO := Lib.hid hown
      clear hown hbel
      go_wp2_with fail
      go_ret
      refine ⟨w.heap.size, by rw [hl]; rfl, ?_, HB.out⟩
      have h3 := HO.out
      rw [copied_all L k hl] at h3
      rw [hl]
      exact h3

/-- eqIntS of two rows that hold the same numbers. -/
theorem lawsEqI (A1 A2 : Option Addr) (n c1 c2 B1 B2 : Nat) (L : List Int) (w : World) (h1 : IntAt w B1 A1 n L) (h2 : IntAt w B2 A2 n L) (hn : n ≤ 1000000000) :
    Calls Tryz.prog 28 #[.slice A1 n c1, .slice A2 n c2] w (RetB true w) := by
  have H1 := Lib.hid h1
  have H2 := Lib.hid h2
  clear h1 h2
  go_enter Tryz.func28, Tryz.ntmps28
  go_wp2_with fail
  go_loopw [5] (fun i wr => ∃ k m : Nat, i = .int .i64 k ∧ k ≤ n ∧ wr = w.drewN m) (fun i _ => n - (intOf i).toNat)
  case atStart => exact ⟨0, 0, rfl, Nat.zero_le _, rfl⟩
  case round =>
    obtain ⟨k, m, rfl, hk, rfl⟩ := hrel
    by_cases hlt : k < n
    · obtain ⟨g1, o1, rfl, _, e1⟩ := H1.out.at k hlt
      obtain ⟨g2, o2, rfl, _, e2⟩ := H2.out.at k hlt
      go_wp2_with fail
      go_quiet (fail)
      go_wp2_with fail
      go_roundw
      case rel => exact ⟨k + 1, _, by go_num, by omega, rfl⟩
      case measure => simp [intOf]; omega
    · go_wp2_with fail
      go_ret
      exact ⟨rfl, gb_drewN (gb_refl _ _) _⟩

/-- The same two for rows of the call's own. -/
theorem lawsEqOwn (v1 v2 : Value) (b1 b2 : Nat) (L : List Int) (w : World) (h1 : w.ownsRow b1 3 1 v1 L.length (intsV L)) (h2 : w.ownsRow b2 3 1 v2 L.length (intsV L)) (hn : L.length ≤ 1000000000) :
    Calls Tryz.prog 28 #[v1, v2] w (RetB true w) := by
  obtain ⟨A1, c1, rfl, _⟩ := own_form h1
  obtain ⟨A2, c2, rfl, _⟩ := own_form h2
  exact lawsEqI A1 A2 L.length c1 c2 _ _ L w (intAt_own h1 rfl (Nat.le_refl _)) (intAt_own h2 rfl (Nat.le_refl _)) hn
end Go.Proofs.YtidilfakganooaaGreatDoor
end

section
namespace Go.Proofs.YtidilfakganooaaGreatDoor
open Go.ChangeShapes Go.WideShapes Go.ChangeAt Go.RowKit
set_option linter.unusedVariables false

def markI (k0 n j : Nat) (l : List Int) : List Int := (List.range n).map fun t => if t < j then ((k0 + t : Nat) : Int) else l.getD t 0
theorem markI_zero (k0 n : Nat) (l : List Int) (h : l.length = n) : markI k0 n 0 l = l := by
  refine List.ext_getElem (by simp [markI, h]) fun i h1 h2 => ?_
  simp [markI, List.getElem?_eq_getElem h2]
theorem markI_succ (k0 n j : Nat) (l : List Int) : (markI k0 n j l).set j ((k0 + j : Nat) : Int) = markI k0 n (j + 1) l := by
  refine List.ext_getElem (by simp [markI]) fun i h1 h2 => ?_
  rw [List.getElem_set]
  by_cases e : j = i
  · subst e; simp [markI]
  · simp only [e, if_false, markI, List.getElem_map, List.getElem_range]
    by_cases hi : i < j
    · rw [if_pos hi, if_pos (by omega)]
    · rw [if_neg hi, if_neg (by omega)]
theorem markI_length (k0 n j : Nat) (l : List Int) : (markI k0 n j l).length = n := by simp [markI]
def marksI (k0 n : Nat) : List Int := markI k0 n n []
theorem markI_all (k0 n : Nat) (l : List Int) : markI k0 n n l = marksI k0 n := by
  refine List.ext_getElem (by simp [markI, marksI]) fun i h1 h2 => ?_
  have : i < n := by simpa [markI] using h1
  simp [markI, marksI, this]
theorem marksI_get (k0 n j : Nat) (h : j < n) : (marksI k0 n).getD j 0 = ((k0 + j : Nat) : Int) := by
  rw [List.getD_eq_getElem?_getD, List.getElem?_eq_getElem (by simp [marksI, markI]; exact h)]
  simp [marksI, markI, h]
theorem marksI_length (k0 n : Nat) : (marksI k0 n).length = n := markI_length k0 n n []

theorem lawsMarkI (v : Value) (base n k0 : Nat) (l : List Int) (w : World) (h : w.ownsRow base 3 1 v n (intsV l)) (hk : k0 + n ≤ 1000000000) :
    Calls Tryz.prog 29 #[v, .int .i64 (k0 : Int)] w fun e w' => e = .returned (.int .i64 ((k0 + n : Nat) : Int)) ∧ w'.ownsRow base 3 1 v n (intsV (marksI k0 n)) ∧ w.grownBy w' v.ownBlock := by
  have hxl := own_ints_length h
  obtain ⟨A, cap, rfl, ha⟩ := own_form h
  have h' := h
  rw [← markI_zero k0 n l hxl] at h'
  clear h hxl
  have H0 := Lib.hid h'
  clear h'
  go_enter Tryz.func29, Tryz.ntmps29
  go_wp2_with fail
  go_loopw [1, 5] (fun q i wr => ∃ j : Nat, j ≤ n ∧ q = .int .i64 ((k0 + j : Nat) : Int) ∧ i = .int .i64 (j : Int) ∧ wr.ownsRow base 3 1 (.slice A n cap) n (intsV (markI k0 n j l)) ∧ w.grownBy wr (Value.slice A n cap).ownBlock) (fun _ i _ => n - (intOf i).toNat)
  case atStart => exact ⟨0, Nat.zero_le _, rfl, rfl, H0.out, gb_refl _ _⟩
  case round =>
    obtain ⟨j, hj, rfl, rfl, hown, hgr⟩ := hrel
    have HG := Lib.hid hgr
    clear hgr
    by_cases hlt : j < n
    · obtain ⟨g, rfl⟩ := ha (by omega)
      clear ha
      have hc := hown.cellAt j (by omega)
      rw [List.getElem?_eq_getElem (by rw [intsV_length, markI_length]; omega)] at hc
      have hf := hown.frozenAt j
      obtain ⟨hown2, hg2⟩ := hown.stored j (.int .i64 ((k0 + j : Nat) : Int))
      rw [intsV_set, markI_succ] at hown2
      have HOWN := Lib.hid hown2
      have HGG := Lib.hid (gb_trans HG.out hg2)
      clear hown hown2 hg2
      go_wp2_with fail
      go_roundw
      case rel => exact ⟨j + 1, by omega, by go_num, by go_num, HOWN.out, HGG.out⟩
      case measure => simp [intOf]; omega
    · obtain rfl : j = n := by omega
      rw [markI_all] at hown
      have HOWN := Lib.hid hown
      clear hown
      go_wp2_with fail
      go_ret
      exact ⟨rfl, HOWN.out, HG.out⟩

theorem lawsHeldI (A : Option Addr) (n cap B k0 : Nat) (w : World) (h : IntAt w B A n (marksI k0 n)) (hk : k0 + n ≤ 1000000000) :
    Calls Tryz.prog 30 #[.slice A n cap, .int .i64 (k0 : Int)] w fun e w' => e = .returned (.int .i64 ((k0 + n : Nat) : Int)) ∧ w.grownBy w' none := by
  have H0 := Lib.hid h
  clear h
  go_enter Tryz.func30, Tryz.ntmps30
  go_wp2_with fail
  go_loopw [1, 5] (fun q i wr => ∃ j m : Nat, j ≤ n ∧ q = .int .i64 ((k0 + j : Nat) : Int) ∧ i = .int .i64 (j : Int) ∧ wr = w.drewN m) (fun _ i _ => n - (intOf i).toNat)
  case atStart => exact ⟨0, 0, Nat.zero_le _, rfl, rfl, rfl⟩
  case round =>
    obtain ⟨j, m, hj, rfl, rfl, rfl⟩ := hrel
    by_cases hlt : j < n
    · obtain ⟨g, off, rfl, _, hc⟩ := H0.out.at j hlt
      rw [marksI_get k0 n j hlt] at hc
      go_wp2_with fail
      go_roundw
      case rel => exact ⟨j + 1, _, by omega, by go_num, by go_num, rfl⟩
      case measure => simp [intOf]; omega
    · obtain rfl : j = n := by omega
      go_wp2_with fail
      go_ret
      exact ⟨rfl, gb_drewN (gb_refl _ _) _⟩

theorem lawsHeldOwn (v : Value) (base n k0 : Nat) (w : World) (h : w.ownsRow base 3 1 v n (intsV (marksI k0 n))) (hk : k0 + n ≤ 1000000000) :
    Calls Tryz.prog 30 #[v, .int .i64 (k0 : Int)] w fun e w' => e = .returned (.int .i64 ((k0 + n : Nat) : Int)) ∧ w.grownBy w' none := by
  obtain ⟨A, c, rfl, _⟩ := own_form h
  exact lawsHeldI A n c _ k0 w (intAt_own h (marksI_length k0 n) (Nat.le_refl _)) hk
end Go.Proofs.YtidilfakganooaaGreatDoor
end

section
namespace Go.Proofs.YtidilfakganooaaGreatDoor
open Go.ChangeShapes Go.WideShapes Go.ChangeAt Go.RowKit
set_option linter.unusedVariables false

theorem lawsSzI (A : Option Addr) (n cap : Nat) (m : Int) (w : World) (hn : n ≤ 9223372036854775807) (hm0 : 0 ≤ m) (hm1 : m ≤ 1048576) :
    Calls Tryz.prog 43 #[.slice A n cap, .int .i64 m] w fun e w' => e = .returned (.int .i64 (if m < (n : Int) then -1 else m - n)) ∧ w = w' := by
  by_cases hlt : m < (n : Int)
  · go_enter Tryz.func43, Tryz.ntmps43
    go_wp2_with fail
    go_ret
    exact ⟨ret_int64 (by (repeat' split) <;> first | rfl | omega), rfl⟩
  · go_enter Tryz.func43, Tryz.ntmps43
    go_wp2_with fail
    go_ret
    exact ⟨ret_int64 (by (repeat' split) <;> first | rfl | omega), rfl⟩
end Go.Proofs.YtidilfakganooaaGreatDoor
end

section
namespace Go.Proofs.YtidilfakganooaaGreatDoor
open Go.ChangeShapes Go.WideShapes Go.ChangeAt Go.RowKit
set_option linter.unusedVariables false

/-- A new table with the same ports. -/
def NewTab (P : List Int) (w : World) (e : Ending) (w' : World) : Prop :=
  ∃ g, e = .returned (.agg #[.slice (some ⟨g, 0, none⟩) P.length P.length]) ∧ w'.ownsRow w.heap.size 3 1 (.slice (some ⟨g, 0, none⟩) P.length P.length) P.length (intsV P) ∧ Below w.heap.size w w'

theorem lawsSzTable (A : Option Addr) (n cap : Nat) (m : Int) (w : World) (hn : n ≤ 9223372036854775807) (hm0 : 0 ≤ m) (hm1 : m ≤ 1048576) :
    Calls Tryz.prog 14 #[.agg #[.slice A n cap], .int .i64 m] w fun e w' => e = .returned (.int .i64 (if m < (n : Int) then -1 else m - n)) ∧ w.grownBy w' none := by
  by_cases hlt : m < (n : Int)
  · go_enter Tryz.func14, Tryz.ntmps14
    go_wp2_with fail
    refine (lawsSzI A n cap m _ hn hm0 hm1).mono ?_
    rintro e w1 ⟨rfl, rfl⟩
    rw [if_pos hlt]
    go_wp2_with fail
    go_ret
    exact ⟨rfl, gb_alloc (gb_refl _ _) _⟩
  · go_enter Tryz.func14, Tryz.ntmps14
    go_wp2_with fail
    refine (lawsSzI A n cap m _ hn hm0 hm1).mono ?_
    rintro e w1 ⟨rfl, rfl⟩
    rw [if_neg (by omega)]
    go_wp2_with fail
    go_ret
    exact ⟨rfl, gb_alloc (gb_refl _ _) _⟩

theorem lawsToTable (A : Option Addr) (n cap : Nat) (P : List Int) (w : World) (h : IntAt w w.heap.size A n P) (hn : n ≤ 1048576) :
    Calls Tryz.prog 17 #[.agg #[.slice A n cap]] w (NewTab P w) := by
  have hg := gb_alloc (gb_alloc (gb_alloc (gb_refl w none) (.cells #[.slice A n cap] 42)) (.cells #[.slice none 0 0] 30)) (.cells #[.slice none 0 0] 30)
  have H3 := Lib.hid ((h.none (Nat.le_refl _) hg).more hg.size)
  have HG := Lib.hid hg
  have k2 := ((Blk.new (w.alloc (.cells #[.slice A n cap] 42)) 30 #[.slice none 0 0]).alloc (.cells #[.slice none 0 0] 30))
  have k3 := Blk.new ((w.alloc (.cells #[.slice A n cap] 42)).alloc (.cells #[.slice none 0 0] 30)) 30 #[.slice none 0 0]
  simp only [alloc_size] at k2 k3
  have K2 := Lib.hid k2
  have K3 := Lib.hid k3
  have hs3 : (((w.alloc (.cells #[.slice A n cap] 42)).alloc (.cells #[.slice none 0 0] 30)).alloc (.cells #[.slice none 0 0] 30)).heap.size = w.heap.size + 3 := by simp only [alloc_size]
  have HS3 := Lib.hid hs3
  clear h hg k2 k3 hs3
  go_enter Tryz.func17, Tryz.ntmps17
  go_wp2_with fail
  refine (lawsToIntS A n cap P _ H3.out hn).mono ?_
  rintro e w2 ⟨g, rfl, o2, b2⟩
  have k3 := K3.out.below b2 (by rw [HS3.out]; omega)
  have k2 := K2.out.below b2 (by rw [HS3.out]; omega)
  have HK2 := Lib.hid k2
  have HB2 := Lib.hid ((gb_below_none HG.out (Nat.le_refl _)).trans (b2.mono HG.out.size))
  have HO := Lib.hid o2
  have a30 : w2.cell? ⟨w.heap.size + 1 + 1, 0, none⟩ = some (.slice none 0 0) := k3.cell 0
  have f30 := k3.frozen 0
  have a20 : w2.cell? ⟨w.heap.size + 1, 0, none⟩ = some (.slice none 0 0) := k2.cell 0
  have f20 := k2.frozen 0
  clear o2 b2 k2 k3
  go_wp2_with fail
  have kk := ((HK2.out.far (p := ⟨w.heap.size + 1 + 1, 0, none⟩) (by simp) (.slice (some ⟨g, 0, none⟩) P.length P.length)).set_ 0 (.slice (some ⟨g, 0, none⟩) P.length P.length))
  have d0 := kk.cell 0
  simp at d0
  have hgl := HO.out.lt g rfl
  rw [HS3.out] at hgl
  refine bodyPost_ret (v := .agg #[.slice (some ⟨g, 0, none⟩) P.length P.length]) (by simp [results, Tryz.results17, go_sem, d0]) rfl ⟨g, rfl, ?_, ?_⟩
  · exact own_less (ownsRow_setCell_below (ownsRow_setCell_below HO.out (by rw [HS3.out]; show w.heap.size + 1 + 1 < _; omega) _) (by rw [HS3.out]; show w.heap.size + 1 < _; omega) _) (by rw [HS3.out]; omega)
  · exact gb_below_none (gb_setCell (gb_setCell (gb_of_below HB2.out none) (.inr (by show w.heap.size ≤ w.heap.size + 1 + 1; omega)) _) (.inr (by show w.heap.size ≤ w.heap.size + 1; omega)) _) (Nat.le_refl _)

/-- eqTable of two tables with the same ports. -/
theorem lawsEqTable (A1 A2 : Option Addr) (n c1 c2 B1 B2 : Nat) (P : List Int) (w : World) (h1 : IntAt w B1 A1 n P) (h2 : IntAt w B2 A2 n P) (hB1 : B1 ≤ w.heap.size) (hB2 : B2 ≤ w.heap.size) (hn : n ≤ 1000000000) :
    Calls Tryz.prog 20 #[.agg #[.slice A1 n c1], .agg #[.slice A2 n c2]] w (RetB true w) := by
  have hg := gb_alloc (gb_alloc (gb_refl w none) (.cells #[.slice A1 n c1] 30)) (.cells #[.slice A2 n c2] 30)
  have H1 := Lib.hid (h1.none hB1 hg)
  have H2 := Lib.hid (h2.none hB2 hg)
  have HG := Lib.hid hg
  clear h1 h2 hg
  go_enter Tryz.func20, Tryz.ntmps20
  go_wp2_with fail
  refine (lawsEqI A1 A2 n c1 c2 B1 B2 P _ H1.out H2.out hn).mono ?_
  rintro e w2 ⟨rfl, hg2⟩
  have HG2 := Lib.hid (gb_trans HG.out hg2)
  clear hg2
  go_wp2_with fail
  go_ret
  exact ⟨rfl, HG2.out⟩
end Go.Proofs.YtidilfakganooaaGreatDoor
end

section
namespace Go.Proofs.YtidilfakganooaaGreatDoor
open Go.ChangeShapes Go.WideShapes Go.ChangeAt Go.RowKit
set_option linter.unusedVariables false

theorem lawsMarkTable (v : Value) (base n k0 : Nat) (l : List Int) (w : World) (h : w.ownsRow base 3 1 v n (intsV l)) (hk : k0 + n ≤ 1000000000) :
    Calls Tryz.prog 22 #[.agg #[v], .int .i64 (k0 : Int)] w fun e w' => e = .returned (.int .i64 ((k0 + n : Nat) : Int)) ∧ w'.ownsRow base 3 1 v n (intsV (marksI k0 n)) ∧ w.grownBy w' v.ownBlock := by
  obtain ⟨A, cap, rfl, ha⟩ := own_form h
  have h' := h.alloc (.cells #[.slice A n cap] 30)
  have HO := Lib.hid h'
  clear h h' ha
  go_enter Tryz.func22, Tryz.ntmps22
  go_wp2_with fail
  refine (lawsMarkI _ base n k0 l _ HO.out hk).mono ?_
  rintro e w1 ⟨rfl, o1, g1⟩
  have O1 := Lib.hid o1
  have G1 := Lib.hid (gb_trans (gb_alloc (gb_refl w _) _) g1)
  clear o1 g1
  go_wp2_with fail
  go_ret
  exact ⟨rfl, O1.out, G1.out⟩
end Go.Proofs.YtidilfakganooaaGreatDoor
end

section
namespace Go.Proofs.YtidilfakganooaaGreatDoor
open Go.ChangeShapes Go.WideShapes Go.ChangeAt Go.RowKit
set_option linter.unusedVariables false

theorem lawsToGrid (W H : Int) (w : World) :
    Calls Tryz.prog 26 #[.agg #[.int .i64 W, .int .i64 H]] w fun e w' => e = .returned (.agg #[.int .i64 W, .int .i64 H]) ∧ w.grownBy w' none := by
  go_enter Tryz.func26, Tryz.ntmps26
  go_wp2_with fail
  refine bodyPost_ret (v := .agg #[.int .i64 W, .int .i64 H]) (by simp [results, Tryz.results26, go_sem]) rfl ⟨rfl, ?_⟩

  exact gb_alloc (gb_alloc (gb_alloc (gb_refl _ _) _) _) _
end Go.Proofs.YtidilfakganooaaGreatDoor
end

section
namespace Go.Proofs.YtidilfakganooaaGreatDoor
open Go.ChangeShapes Go.WideShapes Go.ChangeAt Go.RowKit
set_option linter.unusedVariables false

theorem gb_two {a w : World} {row : Option Nat} {b i j : Nat} (h : a.grownBy w row) (hb : a.heap.size ≤ b) (x y : Value) : a.grownBy ((w.setCell ⟨b, i, none⟩ x).setCell ⟨b, j, none⟩ y) row :=
  gb_setCell (gb_setCell h (.inr hb) x) (.inr hb) y
theorem gb_three {a w : World} {row : Option Nat} {b i j k : Nat} (h : a.grownBy w row) (hb : a.heap.size ≤ b) (x y z : Value) : a.grownBy (((w.setCell ⟨b, i, none⟩ x).setCell ⟨b, j, none⟩ y).setCell ⟨b, k, none⟩ z) row :=
  gb_setCell (gb_two h hb x y) (.inr hb) z

/-- A new mesh with the same fields. -/
def NewMesh (W H : Int) (L : List Int) (w : World) (e : Ending) (w' : World) : Prop :=
  ∃ g, e = .returned (.agg #[.int .i64 W, .int .i64 H, .slice (some ⟨g, 0, none⟩) L.length L.length]) ∧ w'.ownsRow w.heap.size 3 1 (.slice (some ⟨g, 0, none⟩) L.length L.length) L.length (intsV L) ∧ Below w.heap.size w w'

theorem lawsSzMesh (W H : Int) (A : Option Addr) (n cap : Nat) (m : Int) (w : World) (hn : n ≤ 9223372036854775807) (hm0 : 0 ≤ m) (hm1 : m ≤ 1048576) :
    Calls Tryz.prog 13 #[.agg #[.int .i64 W, .int .i64 H, .slice A n cap], .int .i64 m] w fun e w' => e = .returned (.int .i64 (if m < (n : Int) then -1 else m - n)) ∧ w.grownBy w' none := by
  by_cases hlt : m < (n : Int)
  · go_enter Tryz.func13, Tryz.ntmps13
    go_wp2_with fail
    refine (lawsSzI A n cap m _ hn hm0 hm1).mono ?_
    rintro e w1 ⟨rfl, rfl⟩
    rw [if_pos hlt]
    go_wp2_with fail
    go_ret
    exact ⟨rfl, gb_alloc (gb_refl _ _) _⟩
  · go_enter Tryz.func13, Tryz.ntmps13
    go_wp2_with fail
    refine (lawsSzI A n cap m _ hn hm0 hm1).mono ?_
    rintro e w1 ⟨rfl, rfl⟩
    rw [if_neg (by omega)]
    go_wp2_with fail
    go_ret
    exact ⟨rfl, gb_alloc (gb_refl _ _) _⟩

theorem lawsEqGrid (W H : Int) (w : World) :
    Calls Tryz.prog 47 #[.agg #[.int .i64 W, .int .i64 H], .agg #[.int .i64 W, .int .i64 H]] w (RetB true w) := by
  go_enter Tryz.func47, Tryz.ntmps47
  go_wp2_with fail
  go_ret
  exact ⟨rfl, gb_alloc (gb_alloc (gb_refl _ _) _) _⟩

theorem lawsToMesh (W H : Int) (A : Option Addr) (n cap : Nat) (L : List Int) (w : World) (h : IntAt w w.heap.size A n L) (hn : n ≤ 1048576) :
    Calls Tryz.prog 16 #[.agg #[.int .i64 W, .int .i64 H, .slice A n cap]] w (NewMesh W H L w) := by
  have HI := Lib.hid h
  clear h
  go_enter Tryz.func16, Tryz.ntmps16
  go_wp2_with fail
  refine (lawsToGrid W H _).mono ?_
  rintro e w1 ⟨rfl, hg1⟩
  have k1 := (((Blk.new w 41 _).alloc _).alloc _).grown hg1 (by simp)
  have k2 := ((Blk.new _ 28 _).alloc _).grown hg1 (by simp)
  have k3 := (Blk.new _ 28 _).grown hg1 (by simp)
  simp only [alloc_size] at k2 k3
  have hs1 : w.heap.size + 3 ≤ w1.heap.size := by have := hg1.size; simp only [alloc_size] at this; omega
  have HB1 := Lib.hid (gb_below_none (gb_trans (gb_alloc (gb_alloc (gb_alloc (gb_refl w none) _) _) _) hg1) (Nat.le_refl _))
  have K2 := Lib.hid k2
  have K3 := Lib.hid k3
  have a2 : w1.cell? ⟨w.heap.size, 2, none⟩ = some (.slice A n cap) := k1.cell 2
  have a30 : w1.cell? ⟨w.heap.size + 1 + 1, 0, none⟩ = some (.int .i64 0) := k3.cell 0
  have a31 : w1.cell? ⟨w.heap.size + 1 + 1, 1, none⟩ = some (.int .i64 0) := k3.cell 1
  have f30 := k3.frozen 0
  have f31 := k3.frozen 1
  clear hg1 k1 k2 k3
  go_wp2_with fail
  have K3x := (K3.out.set_ 0 (.int .i64 W)).set_ 1 (.int .i64 H)
  have K2x := (K2.out.far (p := ⟨w.heap.size + 1 + 1, 0, none⟩) (by simp) (.int .i64 W)).far (p := ⟨w.heap.size + 1 + 1, 1, none⟩) (by simp) (.int .i64 H)
  have hbx := gb_below_none (gb_two (i := 0) (j := 1) (b := w.heap.size + 1 + 1) (gb_of_below HB1.out none) (by omega) (.int .i64 W) (.int .i64 H)) (Nat.le_refl _)
  have hsx : ((w1.setCell ⟨w.heap.size + 1 + 1, 0, none⟩ (.int .i64 W)).setCell ⟨w.heap.size + 1 + 1, 1, none⟩ (.int .i64 H)).heap.size = w1.heap.size := by simp [World.setCell]
  simp at K3x
  clear K2 K3 HB1 a2 a30 a31 f30 f31
  generalize (w1.setCell ⟨w.heap.size + 1 + 1, 0, none⟩ (.int .i64 W)).setCell ⟨w.heap.size + 1 + 1, 1, none⟩ (.int .i64 H) = wx at *
  have hix : IntAt wx wx.heap.size A n L := (HI.out.below hbx).more (by omega)
  refine (lawsToIntS A n cap L wx hix hn).mono ?_
  rintro e w2 ⟨g, rfl, o2, b2⟩
  have k3 := K3x.below b2 (by omega)
  have k2 := K2x.below b2 (by omega)
  have HB2 := Lib.hid (hbx.trans (b2.mono hbx.size))
  have HK2 := Lib.hid k2
  have HS := Lib.hid (show w.heap.size + 1 + 1 < wx.heap.size by omega)
  have hgl := o2.lt g rfl
  have HO := Lib.hid o2
  have a30 : w2.cell? ⟨w.heap.size + 1 + 1, 0, none⟩ = some (.int .i64 W) := k3.cell 0
  have a31 : w2.cell? ⟨w.heap.size + 1 + 1, 1, none⟩ = some (.int .i64 H) := k3.cell 1
  have a32 : w2.cell? ⟨w.heap.size + 1 + 1, 2, none⟩ = some (.slice none 0 0) := k3.cell 2
  have f32 := k3.frozen 2
  have a20 : w2.cell? ⟨w.heap.size + 1, 0, none⟩ = some (.int .i64 0) := k2.cell 0
  have a21 : w2.cell? ⟨w.heap.size + 1, 1, none⟩ = some (.int .i64 0) := k2.cell 1
  have a22 : w2.cell? ⟨w.heap.size + 1, 2, none⟩ = some (.slice none 0 0) := k2.cell 2
  have f20 := k2.frozen 0
  have f21 := k2.frozen 1
  have f22 := k2.frozen 2
  clear K3x K2x hbx hix b2 o2 k3 k2 hs1
  go_wp2_with fail
  have kk := (((HK2.out.far (p := ⟨w.heap.size + 1 + 1, 2, none⟩) (by simp) (.slice (some ⟨g, 0, none⟩) L.length L.length)).set_ 0 (.int .i64 W)).set_ 1 (.int .i64 H)).set_ 2 (.slice (some ⟨g, 0, none⟩) L.length L.length)
  have d0 := kk.cell 0
  have d1 := kk.cell 1
  have d2 := kk.cell 2
  simp at d0 d1 d2
  refine bodyPost_ret (v := .agg #[.int .i64 W, .int .i64 H, .slice (some ⟨g, 0, none⟩) L.length L.length]) (by simp [results, Tryz.results16, go_sem, d0, d1, d2]) rfl ⟨g, rfl, ?_, ?_⟩
  · exact own_less (ownsRow_setCell_below (ownsRow_setCell_below (ownsRow_setCell_below (ownsRow_setCell_below HO.out HS.out _) (by show w.heap.size + 1 < _; have := HS.out; omega) _) (by show w.heap.size + 1 < _; have := HS.out; omega) _) (by show w.heap.size + 1 < _; have := HS.out; omega) _) (by have := HS.out; omega)
  · exact gb_below_none (gb_three (gb_setCell (gb_of_below HB2.out none) (.inr (by show w.heap.size ≤ w.heap.size + 1 + 1; omega)) _) (by omega) _ _ _) (Nat.le_refl _)

/-- eqMesh of two meshes with the same fields. -/
theorem lawsEqMesh (W H : Int) (A1 A2 : Option Addr) (n c1 c2 B1 B2 : Nat) (L : List Int) (w : World) (h1 : IntAt w B1 A1 n L) (h2 : IntAt w B2 A2 n L) (hB1 : B1 ≤ w.heap.size) (hB2 : B2 ≤ w.heap.size) (hn : n ≤ 1000000000) :
    Calls Tryz.prog 19 #[.agg #[.int .i64 W, .int .i64 H, .slice A1 n c1], .agg #[.int .i64 W, .int .i64 H, .slice A2 n c2]] w (RetB true w) := by
  have H1 := Lib.hid h1
  have H2 := Lib.hid h2
  clear h1 h2
  go_enter Tryz.func19, Tryz.ntmps19
  go_wp2_with fail
  refine (lawsEqGrid W H _).mono ?_
  rintro e w1 ⟨rfl, hg1⟩
  have k1 := ((Blk.new w 28 _).alloc _).grown hg1 (by simp)
  have k2 := (Blk.new _ 28 _).grown hg1 (by simp)
  simp only [alloc_size] at k2
  have a12 : w1.cell? ⟨w.heap.size, 2, none⟩ = some (.slice A1 n c1) := k1.cell 2
  have a22 : w1.cell? ⟨w.heap.size + 1, 2, none⟩ = some (.slice A2 n c2) := k2.cell 2
  have hg := gb_trans (gb_alloc (gb_alloc (gb_refl w none) _) _) hg1
  have HG := Lib.hid hg
  have i1 := H1.out.none hB1 hg
  have i2 := H2.out.none hB2 hg
  clear hg1 k1 k2 hg
  go_wp2_with fail
  refine (lawsEqI A1 A2 n c1 c2 B1 B2 L _ i1 i2 hn).mono ?_
  rintro e w2 ⟨rfl, hg2⟩
  have HG2 := Lib.hid (gb_trans HG.out hg2)
  clear hg2 i1 i2
  go_wp2_with fail
  go_ret
  exact ⟨rfl, HG2.out⟩
end Go.Proofs.YtidilfakganooaaGreatDoor
end

section
namespace Go.Proofs.YtidilfakganooaaGreatDoor
open Go.ChangeShapes Go.WideShapes Go.ChangeAt Go.RowKit
set_option linter.unusedVariables false

theorem lawsMarkMesh (W H : Int) (v : Value) (base n k0 : Nat) (l : List Int) (w : World) (h : w.ownsRow base 3 1 v n (intsV l)) (hk : k0 + n ≤ 1000000000) :
    Calls Tryz.prog 21 #[.agg #[.int .i64 W, .int .i64 H, v], .int .i64 (k0 : Int)] w fun e w' => e = .returned (.int .i64 ((k0 + n : Nat) : Int)) ∧ w'.ownsRow base 3 1 v n (intsV (marksI k0 n)) ∧ w.grownBy w' v.ownBlock := by
  obtain ⟨A, cap, rfl, ha⟩ := own_form h
  have h' := h.alloc (.cells #[.int .i64 W, .int .i64 H, .slice A n cap] 28)
  have HO := Lib.hid h'
  clear h h' ha
  go_enter Tryz.func21, Tryz.ntmps21
  go_wp2_with fail
  refine (lawsMarkI _ base n k0 l _ HO.out hk).mono ?_
  rintro e w1 ⟨rfl, o1, g1⟩
  have O1 := Lib.hid o1
  have G1 := Lib.hid (gb_trans (gb_alloc (gb_refl w _) _) g1)
  clear o1 g1
  go_wp2_with fail
  go_ret
  exact ⟨rfl, O1.out, G1.out⟩
end Go.Proofs.YtidilfakganooaaGreatDoor
end

section
namespace Go.Proofs.YtidilfakganooaaGreatDoor
open Go.ChangeShapes Go.WideShapes Go.ChangeAt Go.RowKit
set_option linter.unusedVariables false

def okG (W H : Int) : Bool := decide (1 ≤ W ∧ W ≤ 4 ∧ 1 ≤ H ∧ H ≤ 4)
def countG (W H : Int) : Int := if okG W H then W * H else 0
def atG (W H x y : Int) : Int := if okG W H = true ∧ 0 ≤ x ∧ x < W ∧ 0 ≤ y ∧ y < H then y * W + x else -1
def hasG (W H n : Int) : Bool := decide (0 ≤ n ∧ n < countG W H)
def colG (W H n : Int) : Int := if hasG W H n then n % W else -1
def rowG (W H n : Int) : Int := if hasG W H n then n / W else -1
def absI (x : Int) : Int := if x < 0 then -x else x
def distG (W H a b : Int) : Int := if hasG W H a = true ∧ hasG W H b = true then absI (a % W - b % W) + absI (a / W - b / W) else -1
def diamG (W H : Int) : Int := if okG W H then W + H - 2 else -1

theorem okG_iff {W H : Int} : okG W H = true ↔ 1 ≤ W ∧ W ≤ 4 ∧ 1 ≤ H ∧ H ≤ 4 := by simp [okG]
theorem okG_cases {W H : Int} (h : okG W H = true) : (W = 1 ∨ W = 2 ∨ W = 3 ∨ W = 4) ∧ (H = 1 ∨ H = 2 ∨ H = 3 ∨ H = 4) := by
  rw [okG_iff] at h; omega
theorem countG_le (W H : Int) : 0 ≤ countG W H ∧ countG W H ≤ 16 := by
  unfold countG
  split
  · rename_i h
    rcases okG_cases h with ⟨h1, h2⟩
    rcases h1 with rfl | rfl | rfl | rfl <;> rcases h2 with rfl | rfl | rfl | rfl <;> decide
  · omega
theorem hasG_iff {W H n : Int} : hasG W H n = true ↔ 0 ≤ n ∧ n < countG W H := by simp [hasG]
theorem hasG_ok {W H n : Int} (h : hasG W H n = true) : okG W H = true ∧ 0 ≤ n ∧ n < W * H ∧ countG W H = W * H := by
  rw [hasG_iff] at h
  cases hok : okG W H with
  | true => have hc : countG W H = W * H := by simp [countG, hok]
            rw [hc] at h; exact ⟨rfl, h.1, h.2, hc⟩
  | false => have hc : countG W H = 0 := by simp [countG, hok]
             rw [hc] at h; omega

theorem hasG_le {W H n : Int} (h : hasG W H n = true) : 0 ≤ n ∧ n ≤ 15 := by
  rw [hasG_iff] at h; have := countG_le W H; omega
theorem row_wrap {W n : Int} (h0 : 0 ≤ n) (h1 : n ≤ 15) (hW : W = 1 ∨ W = 2 ∨ W = 3 ∨ W = 4) : wrap64 (n.tdiv W) = n / W := by
  rw [Int.tdiv_eq_ediv_of_nonneg h0]
  refine IntWalk.wrap64_in _ ?_
  rcases hW with rfl | rfl | rfl | rfl <;> omega
/-- Column and row of a node are in range, and give the node back. -/
theorem place_of {W H n : Int} (h : hasG W H n = true) : 0 ≤ n % W ∧ n % W < W ∧ 0 ≤ n / W ∧ n / W < H ∧ n / W * W + n % W = n := by
  obtain ⟨hok, h0, h1, _⟩ := hasG_ok h
  obtain ⟨hW, hH⟩ := okG_cases hok
  rcases hW with rfl | rfl | rfl | rfl <;> rcases hH with rfl | rfl | rfl | rfl <;> omega

theorem absI_nonneg (x : Int) : 0 ≤ absI x := by unfold absI; split <;> omega
theorem absI_neg (x : Int) : absI (-x) = absI x := by unfold absI; (repeat' split) <;> omega
theorem absI_swap (a b : Int) : absI (a - b) = absI (b - a) := by unfold absI; (repeat' split) <;> omega
theorem absI_tri (a b c : Int) : absI (a - c) ≤ absI (a - b) + absI (b - c) := by unfold absI; (repeat' split) <;> omega
theorem absI_lt {a b W : Int} (ha : 0 ≤ a) (ha' : a < W) (hb : 0 ≤ b) (hb' : b < W) : absI (a - b) ≤ W - 1 := by unfold absI; split <;> omega
theorem absI_zero {x : Int} : absI x = 0 ↔ x = 0 := by unfold absI; split <;> omega

theorem distG_ok {W H a b : Int} (ha : hasG W H a = true) (hb : hasG W H b = true) : distG W H a b = absI (a % W - b % W) + absI (a / W - b / W) := by simp [distG, ha, hb]
theorem distG_swap (W H a b : Int) : distG W H a b = distG W H b a := by
  unfold distG
  rw [absI_swap (a % W) (b % W), absI_swap (a / W) (b / W)]
  by_cases ha : hasG W H a = true <;> by_cases hb : hasG W H b = true <;> simp [ha, hb]
theorem distG_nonneg {W H a b : Int} (ha : hasG W H a = true) (hb : hasG W H b = true) : 0 ≤ distG W H a b := by
  rw [distG_ok ha hb]
  have := absI_nonneg (a % W - b % W); have := absI_nonneg (a / W - b / W); omega
theorem distG_zero {W H a b : Int} (ha : hasG W H a = true) (hb : hasG W H b = true) : distG W H a b = 0 ↔ a = b := by
  rw [distG_ok ha hb]
  have h1 := absI_nonneg (a % W - b % W); have h2 := absI_nonneg (a / W - b / W)
  constructor
  · intro h
    have e1 := absI_zero.1 (show absI (a % W - b % W) = 0 by omega)
    have e2 := absI_zero.1 (show absI (a / W - b / W) = 0 by omega)
    have pa := (place_of ha).2.2.2.2
    have pb := (place_of hb).2.2.2.2
    rw [← pa, ← pb, show a % W = b % W by omega, show a / W = b / W by omega]
  · rintro rfl
    simp [absI]
theorem distG_le {W H a b : Int} (ha : hasG W H a = true) (hb : hasG W H b = true) : distG W H a b ≤ diamG W H := by
  have hok := (hasG_ok ha).1
  rw [distG_ok ha hb]
  obtain ⟨a0, a1, a2, a3, _⟩ := place_of ha
  obtain ⟨b0, b1, b2, b3, _⟩ := place_of hb
  have h1 := absI_lt a0 a1 b0 b1
  have h2 := absI_lt a2 a3 b2 b3
  simp only [diamG, hok, if_true]
  omega
theorem distG_tri {W H a b c : Int} (ha : hasG W H a = true) (hb : hasG W H b = true) (hc : hasG W H c = true) : distG W H a c ≤ distG W H a b + distG W H b c := by
  rw [distG_ok ha hb, distG_ok ha hc, distG_ok hb hc]
  have h1 := absI_tri (a % W) (b % W) (c % W)
  have h2 := absI_tri (a / W) (b / W) (c / W)
  omega
theorem atG_place {W H n : Int} (h : hasG W H n = true) : atG W H (colG W H n) (rowG W H n) = n := by
  obtain ⟨h0, h1, h2, h3, h4⟩ := place_of h
  have hok := (hasG_ok h).1
  simp only [colG, rowG, h, if_true]
  unfold atG
  rw [if_pos ⟨hok, h0, h1, h2, h3⟩, h4]
/-- The greatest distance is that of opposite corners. -/
theorem diam_corner {W H : Int} (hok : okG W H = true) : distG W H 0 (W * H - 1) = diamG W H := by
  obtain ⟨hW, hH⟩ := okG_cases hok
  rcases hW with rfl | rfl | rfl | rfl <;> rcases hH with rfl | rfl | rfl | rfl <;> decide

end Go.Proofs.YtidilfakganooaaGreatDoor
end

section
namespace Go.Proofs.YtidilfakganooaaGreatDoor
open Go.ChangeShapes Go.WideShapes Go.ChangeAt Go.RowKit
set_option linter.unusedVariables false

def nextG (W H n p : Int) : Int :=
  if hasG W H n then
    if p = 0 then atG W H (n % W) (n / W - 1)
    else if p = 1 then atG W H (n % W + 1) (n / W)
    else if p = 2 then atG W H (n % W) (n / W + 1)
    else if p = 3 then atG W H (n % W - 1) (n / W)
    else if p = 4 then n else -1
  else -1
def oppG (p : Int) : Int := if p = 0 then 2 else if p = 1 then 3 else if p = 2 then 0 else if p = 3 then 1 else if p = 4 then 4 else -1
def leadsG (W H c : Int) : Bool := decide (0 ≤ c ∧ c < 4 * countG W H ∧ 0 ≤ nextG W H (c / 4) (c % 4))
/-- Element i of the broken channels leads somewhere and is greater than the one before. -/
def goodAt (W H : Int) (L : List Int) (i : Nat) : Bool := leadsG W H (L.getD i 0) && (decide (i = 0) || decide (L.getD (i - 1) 0 < L.getD i 0))
def meshG (W H : Int) (L : List Int) : Bool := okG W H && (List.range L.length).all (goodAt W H L)
def inG (L : List Int) (c : Int) : Bool := L.contains c
def hasChG (W H : Int) (L : List Int) (c : Int) : Bool := leadsG W H c && !inG L c
def hasChannelG (W H : Int) (L : List Int) (c : Int) : Bool := meshG W H L && hasChG W H L c
/-- The channels below k. -/
def chansTo (W H : Int) (L : List Int) (k : Nat) : List Int := ((List.range k).map fun c : Nat => (c : Int)).filter (hasChG W H L)
def chansG (W H : Int) (L : List Int) : List Int := if meshG W H L then chansTo W H L (4 * countG W H).toNat else []
def portB (p : Int) : ByteArray := if p = 0 then ⟨#[110, 111, 114, 116, 104]⟩ else if p = 1 then ⟨#[101, 97, 115, 116]⟩ else if p = 2 then ⟨#[115, 111, 117, 116, 104]⟩ else if p = 3 then ⟨#[119, 101, 115, 116]⟩ else if p = 4 then ⟨#[108, 111, 99, 97, 108]⟩ else ⟨#[]⟩

theorem atG_le (W H x y : Int) : -1 ≤ atG W H x y ∧ atG W H x y ≤ 15 := by
  unfold atG
  split
  · rename_i h
    obtain ⟨hok, h0, h1, h2, h3⟩ := h
    obtain ⟨hW, hH⟩ := okG_cases hok
    rcases hW with rfl | rfl | rfl | rfl <;> rcases hH with rfl | rfl | rfl | rfl <;> omega
  · omega
theorem nextG_le (W H n p : Int) : -1 ≤ nextG W H n p ∧ nextG W H n p ≤ 15 := by
  unfold nextG
  split
  · rename_i h
    have := hasG_le h
    repeat' split
    all_goals first | exact atG_le _ _ _ _ | omega
  · omega
theorem nextG_has {W H n p : Int} (h : ¬ 0 ≤ p ∨ ¬ p ≤ 4) : nextG W H n p = -1 := by
  unfold nextG
  split
  · rw [if_neg (by omega), if_neg (by omega), if_neg (by omega), if_neg (by omega), if_neg (by omega)]
  · rfl

theorem chansTo_zero (W H : Int) (L : List Int) : chansTo W H L 0 = [] := rfl
theorem chansTo_yes {W H : Int} {L : List Int} {k : Nat} (h : hasChG W H L (k : Int) = true) : chansTo W H L (k + 1) = chansTo W H L k ++ [(k : Int)] := by
  unfold chansTo
  rw [List.range_succ, List.map_append, List.filter_append]
  simp [h]
theorem chansTo_no {W H : Int} {L : List Int} {k : Nat} (h : hasChG W H L (k : Int) = false) : chansTo W H L (k + 1) = chansTo W H L k := by
  unfold chansTo
  rw [List.range_succ, List.map_append, List.filter_append]
  simp [h]
theorem chansTo_le (W H : Int) (L : List Int) (k : Nat) : (chansTo W H L k).length ≤ k := by
  unfold chansTo
  refine Nat.le_trans (List.length_filter_le _ _) ?_
  simp

theorem chansG_le (W H : Int) (L : List Int) : (chansG W H L).length ≤ 64 := by
  unfold chansG
  split
  · have h1 := chansTo_le W H L (4 * countG W H).toNat
    have h2 := countG_le W H
    omega
  · simp
/-- The broken channels up to i are good; a bad one makes the mesh not valid. -/
def goodTo (W H : Int) (L : List Int) (i : Nat) : Prop := ∀ j, j < i → goodAt W H L j = true
theorem goodTo_zero (W H : Int) (L : List Int) : goodTo W H L 0 := fun j h => by omega
theorem goodTo_succ {W H : Int} {L : List Int} {i : Nat} (h : goodTo W H L i) (hi : goodAt W H L i = true) : goodTo W H L (i + 1) := fun j hj => by
  rcases Nat.lt_succ_iff_lt_or_eq.1 hj with h1 | rfl
  · exact h j h1
  · exact hi
theorem meshG_yes {W H : Int} {L : List Int} (hok : okG W H = true) (h : goodTo W H L L.length) : meshG W H L = true := by
  simp only [meshG, hok, Bool.true_and, List.all_eq_true]
  intro i hi
  exact h i (List.mem_range.1 hi)
theorem meshG_no {W H : Int} {L : List Int} {i : Nat} (hi : i < L.length) (h : goodAt W H L i = false) : meshG W H L = false := by
  rw [meshG]
  cases hok : okG W H with
  | false => rfl
  | true =>
    rw [Bool.true_and, List.all_eq_false]
    exact ⟨i, List.mem_range.2 hi, by rw [h]; decide⟩
theorem meshG_bad {W H : Int} {L : List Int} (h : okG W H = false) : meshG W H L = false := by simp [meshG, h]
theorem meshG_ok {W H : Int} {L : List Int} (h : meshG W H L = true) : okG W H = true ∧ goodTo W H L L.length := by
  simp only [meshG, Bool.and_eq_true, List.all_eq_true] at h
  exact ⟨h.1, fun j hj => h.2 j (List.mem_range.2 hj)⟩
theorem inG_no {L : List Int} {c : Int} (h : ∀ j, j < L.length → L.getD j 0 ≠ c) : inG L c = false := by
  unfold inG
  rw [List.contains_eq_any_beq, List.any_eq_false]
  intro x hx
  obtain ⟨j, hj, rfl⟩ := List.getElem_of_mem hx
  have := h j hj
  rw [List.getD_eq_getElem?_getD, List.getElem?_eq_getElem hj] at this
  simp only [Option.getD_some] at this
  simpa using fun e => this e.symm
theorem inG_yes {L : List Int} {c : Int} {j : Nat} (hj : j < L.length) (h : L.getD j 0 = c) : inG L c = true := by
  unfold inG
  rw [List.getD_eq_getElem?_getD, List.getElem?_eq_getElem hj] at h
  simp only [Option.getD_some] at h
  rw [List.contains_iff_mem, ← h]
  exact List.getElem_mem hj
theorem goodAt_lead {W H : Int} {L : List Int} {i : Nat} {x : Int} (hx : L.getD i 0 = x) (h : leadsG W H x = false) : goodAt W H L i = false := by simp only [goodAt, hx, h, Bool.false_and]
theorem goodAt_first {W H : Int} {L : List Int} {x : Int} (hx : L.getD 0 0 = x) (h : leadsG W H x = true) : goodAt W H L 0 = true := by
  simp only [goodAt, hx, h, decide_true, Bool.true_or, Bool.and_self]
theorem goodAt_next {W H : Int} {L : List Int} {j : Nat} {x y : Int} (hx : L.getD (j + 1) 0 = x) (hy : L.getD j 0 = y) (h : leadsG W H x = true) : goodAt W H L (j + 1) = decide (y < x) := by
  simp only [goodAt, Nat.add_sub_cancel, hx, hy, h, Bool.true_and]
  simp
end Go.Proofs.YtidilfakganooaaGreatDoor
end

section
namespace Go.Proofs.YtidilfakganooaaGreatDoor
open Go.ChangeShapes Go.WideShapes Go.ChangeAt Go.RowKit
set_option linter.unusedVariables false

/-- A mesh as the cells of a block. -/
def meshC (W H : Int) (A : Option Addr) (n cap : Nat) : Array Value := #[.int .i64 W, .int .i64 H, .slice A n cap]
def MeshAt (W H : Int) (L : List Int) (A : Option Addr) (n cap : Nat) (w : World) (k : Nat) (wr : World) : Prop :=
  goodTo W H L k ∧ (w.alloc (.cells (meshC W H A n cap) 28)).grownBy wr none
end Go.Proofs.YtidilfakganooaaGreatDoor
end

section
namespace Go.Proofs.YtidilfakganooaaGreatDoor
open Go.ChangeShapes Go.WideShapes Go.ChangeAt Go.RowKit
set_option linter.unusedVariables false

/-- A new list of numbers. -/
def NewI (L : List Int) (w : World) (e : Ending) (w' : World) : Prop :=
  ∃ v, e = .returned v ∧ w'.ownsRow w.heap.size 3 1 v L.length (intsV L) ∧ Below w.heap.size w w'
theorem below_box {w wr : World} {o : Obj} (h : Below (w.heap.size + 1) (w.alloc o) wr) : Below w.heap.size w wr := by
  have h0 : Below w.heap.size w (w.alloc o) := (Below.refl _ _).alloc (Nat.le_refl _) o
  exact ⟨h.os.trans h0.os, h.tape.trans h0.tape, h.output.trans h0.output, Nat.le_trans h0.size h.size, fun i hi => (h.block i (by omega)).trans (h0.block i hi)⟩
theorem below_gb {B : Nat} {a b c : World} (h : Below B a b) (hB : B ≤ a.heap.size) (k : b.grownBy c none) : Below B a c :=
  h.grown k (Nat.le_trans hB h.size) (fun j e => by cases e)
end Go.Proofs.YtidilfakganooaaGreatDoor
end

section
namespace Go.Proofs.YtidilfakganooaaGreatDoor
open Go.ChangeShapes Go.WideShapes Go.ChangeAt Go.RowKit
set_option linter.unusedVariables false

/-- The numbers of L have 64 bits. -/
def WfL (L : List Int) : Prop := ∀ x ∈ L, (Lit.int .i64 x).wf = true
theorem WfL.get {L : List Int} (h : WfL L) {k : Nat} {x : Int} (hk : k < L.length) (hx : L.getD k 0 = x) : (Lit.int .i64 x).wf = true := by
  rw [List.getD_eq_getElem?_getD, List.getElem?_eq_getElem hk] at hx
  simp only [Option.getD_some] at hx
  exact h x (hx ▸ List.getElem_mem hk)
theorem leads_wf {W H c : Int} (h : leadsG W H c = true) : (Lit.int .i64 c).wf = true := by
  have h1 : 0 ≤ c ∧ c < 4 * countG W H ∧ 0 ≤ nextG W H (c / 4) (c % 4) := by simpa [leadsG] using h
  have h2 := countG_le W H
  exact WalkArith.wf_i64 (by omega)
theorem mesh_wf {W H : Int} {L : List Int} (h : meshG W H L = true) : WfL L := fun x hx => by
  obtain ⟨j, hj, rfl⟩ := List.getElem_of_mem hx
  have h1 := (meshG_ok h).2 j hj
  simp only [goodAt, Bool.and_eq_true] at h1
  refine leads_wf (W := W) (H := H) ?_
  have := h1.1
  rw [List.getD_eq_getElem?_getD, List.getElem?_eq_getElem hj] at this
  exact this
end Go.Proofs.YtidilfakganooaaGreatDoor
end

section
namespace Go.Proofs.YtidilfakganooaaGreatDoor
open Go.ChangeShapes Go.WideShapes Go.ChangeAt Go.RowKit
set_option linter.unusedVariables false

/-- A law's mesh and table as blocks. -/
def lawB (W H : Int) (A A2 : Option Addr) (n cap n2 c2 : Nat) (w : World) : World := (w.alloc (.cells (meshC W H A n cap) 41)).alloc (.cells #[.slice A2 n2 c2] 42)
def LawB (W H : Int) (A A2 : Option Addr) (n cap n2 c2 : Nat) (w wr : World) : Prop := Below (w.heap.size + 2) (lawB W H A A2 n cap n2 c2 w) wr
section
variable {W H : Int} {A A2 : Option Addr} {n cap n2 c2 : Nat} {L P : List Int} {w wr wr' : World} {b0 b1 gm gp : Nat}
theorem lawB_size : (lawB W H A A2 n cap n2 c2 w).heap.size = w.heap.size + 2 := by unfold lawB; rw [alloc_size, alloc_size]
theorem LawB.le (h : LawB W H A A2 n cap n2 c2 w wr) : w.heap.size + 2 ≤ wr.heap.size := by have := h.size; rw [lawB_size] at this; exact this
theorem LawB.old (h : LawB W H A A2 n cap n2 c2 w wr) : Below w.heap.size w wr :=
  (((Below.refl _ _).alloc (Nat.le_refl _) _).alloc (by rw [alloc_size]; omega) _ : Below w.heap.size w (lawB W H A A2 n cap n2 c2 w)).trans (h.mono (by omega))
theorem LawB.first (h : (lawB W H A A2 n cap n2 c2 w).grownBy wr none) : LawB W H A A2 n cap n2 c2 w wr := gb_below_none h (by rw [lawB_size]; exact Nat.le_refl _)
theorem LawB.mesh (h : LawB W H A A2 n cap n2 c2 w wr) : Blk wr w.heap.size 41 (meshC W H A n cap) := ((Blk.new w 41 (meshC W H A n cap)).alloc _).below h (by omega)
theorem LawB.table (h : LawB W H A A2 n cap n2 c2 w wr) : Blk wr (w.heap.size + 1) 42 #[.slice A2 n2 c2] := by
  have := Blk.new (w.alloc (.cells (meshC W H A n cap) 41)) 42 #[.slice A2 n2 c2]
  rw [alloc_size] at this
  exact this.below h (by omega)
theorem LawB.gb (h : LawB W H A A2 n cap n2 c2 w wr) (hg : wr.grownBy wr' none) : LawB W H A A2 n cap n2 c2 w wr' := below_gb h (by rw [lawB_size]; exact Nat.le_refl _) hg
theorem LawB.bl (h : LawB W H A A2 n cap n2 c2 w wr) (hg : Below wr.heap.size wr wr') : LawB W H A A2 n cap n2 c2 w wr' := Below.trans h (hg.mono h.le)
theorem LawB.own (h : LawB W H A A2 n cap n2 c2 w wr) {row : Option Nat} (hg : wr.grownBy wr' row) (hr : ∀ k, row = some k → w.heap.size + 2 ≤ k) : LawB W H A A2 n cap n2 c2 w wr' := Below.grown h hg h.le hr
theorem LawB.dr (h : LawB W H A A2 n cap n2 c2 w wr) : LawB W H A A2 n cap n2 c2 w wr.drew := below_drewN h 1
theorem LawB.at (h : LawB W H A A2 n cap n2 c2 w wr) {B : Option Addr} {m : Nat} {M : List Int} (hi : IntAt w w.heap.size B m M) : IntAt wr wr.heap.size B m M := (hi.below h.old).more h.old.size

/-- With the copies of both in blocks b0 and b1, whose lists lie in blocks gm and gp. -/
def LawC (W H : Int) (A A2 : Option Addr) (n cap n2 c2 : Nat) (L P : List Int) (w : World) (b0 b1 gm gp : Nat) (wr : World) : Prop :=
  LawB W H A A2 n cap n2 c2 w wr ∧ Blk wr b0 28 (meshC W H (some ⟨gm, 0, none⟩) L.length L.length) ∧ Blk wr b1 30 #[.slice (some ⟨gp, 0, none⟩) P.length P.length] ∧
  wr.ownsRow (w.heap.size + 2) 3 1 (.slice (some ⟨gm, 0, none⟩) L.length L.length) L.length (intsV L) ∧ wr.ownsRow (w.heap.size + 2) 3 1 (.slice (some ⟨gp, 0, none⟩) P.length P.length) P.length (intsV P)
theorem LawC.lb (h : LawC W H A A2 n cap n2 c2 L P w b0 b1 gm gp wr) : LawB W H A A2 n cap n2 c2 w wr := h.1
theorem LawC.gb (h : LawC W H A A2 n cap n2 c2 L P w b0 b1 gm gp wr) (hg : wr.grownBy wr' none) : LawC W H A A2 n cap n2 c2 L P w b0 b1 gm gp wr' :=
  ⟨h.1.gb hg, h.2.1.grown hg (by simp), h.2.2.1.grown hg (by simp), own_none h.2.2.2.1 hg, own_none h.2.2.2.2 hg⟩
theorem LawC.bl (h : LawC W H A A2 n cap n2 c2 L P w b0 b1 gm gp wr) (hg : Below wr.heap.size wr wr') : LawC W H A A2 n cap n2 c2 L P w b0 b1 gm gp wr' := h.gb (gb_of_below hg none)
theorem LawC.dr (h : LawC W H A A2 n cap n2 c2 L P w b0 b1 gm gp wr) : LawC W H A A2 n cap n2 c2 L P w b0 b1 gm gp wr.drew := h.gb (gb_drew (gb_refl _ _))
theorem LawC.atM (h : LawC W H A A2 n cap n2 c2 L P w b0 b1 gm gp wr) : IntAt wr wr.heap.size (some ⟨gm, 0, none⟩) L.length L := intAt_own h.2.2.2.1 rfl (Nat.le_refl _)
theorem LawC.atP (h : LawC W H A A2 n cap n2 c2 L P w b0 b1 gm gp wr) : IntAt wr wr.heap.size (some ⟨gp, 0, none⟩) P.length P := intAt_own h.2.2.2.2 rfl (Nat.le_refl _)
end
end Go.Proofs.YtidilfakganooaaGreatDoor
end

section
namespace Go.Proofs.YtidilfakganooaaGreatDoor
open Go.ChangeShapes Go.WideShapes Go.ChangeAt Go.RowKit
set_option linter.unusedVariables false

theorem next_has {W H n p : Int} (h : 0 ≤ nextG W H n p) : hasG W H (nextG W H n p) = true := by
  have hat : ∀ x y, 0 ≤ atG W H x y → hasG W H (atG W H x y) = true := fun x y h => by
    unfold atG at h ⊢
    split at h
    · rename_i hc
      obtain ⟨hok, h0, h1, h2, h3⟩ := hc
      rw [if_pos ⟨hok, h0, h1, h2, h3⟩, hasG_iff]
      have hk : countG W H = W * H := by simp [countG, hok]
      obtain ⟨hW, hH⟩ := okG_cases hok
      rw [hk]
      rcases hW with rfl | rfl | rfl | rfl <;> rcases hH with rfl | rfl | rfl | rfl <;> omega
    · omega
  unfold nextG at h ⊢
  split at h
  · rename_i hh
    rw [if_pos hh]
    repeat' split at h
    all_goals first | omega | (simp [*] at *; done) | skip
  · omega
/-- The entry of a table of k nodes. -/
def tabG (k : Int) (P : List Int) (node to : Int) : Int := P.getD (node * k + to).toNat 0
def sizedG (W H : Int) (L P : List Int) : Bool := meshG W H L && decide ((P.length : Int) = countG W H * countG W H)
def askG (W H : Int) (L P : List Int) (node to : Int) : Bool := sizedG W H L P && hasG W H node && hasG W H to
def portAtG (W H : Int) (L P : List Int) (node to : Int) : Int :=
  if askG W H L P node to = true ∧ 0 ≤ tabG (countG W H) P node to ∧ tabG (countG W H) P node to ≤ 4 then tabG (countG W H) P node to else -1
/-- One step of a walk: the port leads through a channel that exists. -/
def stepsG (W H : Int) (L : List Int) (at' p : Int) : Bool := decide (0 ≤ p ∧ p ≤ 3) && hasChG W H L (4 * at' + p)
def walkF (W H : Int) (L P : List Int) (to : Int) : Nat → Int → Option (List Int)
  | 0, _ => none
  | f + 1, a =>
    if tabG (countG W H) P a to = 4 then (if a = to then some [] else none)
    else if stepsG W H L a (tabG (countG W H) P a to) then
      (walkF W H L P to f (nextG W H a (tabG (countG W H) P a to))).map ((4 * a + tabG (countG W H) P a to) :: ·)
    else none
def walkOf (W H : Int) (L P : List Int) (a b : Int) : List Int := (walkF W H L P b ((countG W H).toNat + 1) a).getD []
def walkG (W H : Int) (L P : List Int) (a b : Int) : List Int := if askG W H L P a b = true ∧ a ≠ b then walkOf W H L P a b else []
/-- Entry i of the square of nodes is in order. -/
def entryG (W H : Int) (L P : List Int) (a b : Int) : Bool :=
  if a = b then decide (tabG (countG W H) P a a = 4) else !(walkOf W H L P a b).isEmpty
def tableG (W H : Int) (L P : List Int) : Bool :=
  sizedG W H L P && (List.range (countG W H).toNat).all fun a => (List.range (countG W H).toNat).all fun b => entryG W H L P (a : Int) (b : Int)
/-- The number of channels of the walk of pair i. -/
def lenAt (W H : Int) (L P : List Int) (i : Nat) : Nat := (walkOf W H L P ((i : Int) / countG W H) ((i : Int) % countG W H)).length
def mostTo (W H : Int) (L P : List Int) : Nat → Nat
  | 0 => 0
  | k + 1 => max (mostTo W H L P k) (lenAt W H L P k)
def sqG (W H : Int) : Nat := (countG W H).toNat * (countG W H).toNat
def longG (W H : Int) (L P : List Int) : Int := if tableG W H L P then (mostTo W H L P (sqG W H) : Int) else -1
def minAt (W H : Int) (L P : List Int) (i : Nat) : Bool := decide ((lenAt W H L P i : Int) = distG W H ((i : Int) / countG W H) ((i : Int) % countG W H))
def minimalG (W H : Int) (L P : List Int) : Bool := tableG W H L P && (List.range (sqG W H)).all (minAt W H L P)

section
variable {W H : Int} {L P : List Int}
theorem sizedG_mesh (h : sizedG W H L P = true) : meshG W H L = true ∧ (P.length : Int) = countG W H * countG W H := by
  simpa [sizedG] using h
theorem askG_all {a b : Int} (h : askG W H L P a b = true) : sizedG W H L P = true ∧ hasG W H a = true ∧ hasG W H b = true := by
  simp only [askG, Bool.and_eq_true] at h; exact ⟨h.1.1, h.1.2, h.2⟩
/-- The place of an entry. -/
theorem tab_at {k a b : Int} {n : Nat} (h : (n : Int) = k * k) (ha0 : 0 ≤ a) (ha1 : a < k) (hb0 : 0 ≤ b) (hb1 : b < k) : 0 ≤ a * k + b ∧ a * k + b < n := by
  have h1 : 0 ≤ a * k := Int.mul_nonneg ha0 (by omega)
  have h2 : a * k ≤ (k - 1) * k := Int.mul_le_mul_of_nonneg_right (by omega) (by omega)
  have h3 : (k - 1) * k = k * k - k := by rw [Int.sub_mul, Int.one_mul]
  omega

theorem walkF_end {to a : Int} {f : Nat} (h : tabG (countG W H) P a to = 4) (he : a = to) : walkF W H L P to (f + 1) a = some [] := by subst he; simp [walkF, h]
theorem walkF_lost {to a : Int} {f : Nat} (h : tabG (countG W H) P a to = 4) (he : a ≠ to) : walkF W H L P to (f + 1) a = none := by simp [walkF, h, he]
theorem walkF_bad {to a p : Int} {f : Nat} (h : tabG (countG W H) P a to = p) (h4 : p ≠ 4) (hs : stepsG W H L a p = false) : walkF W H L P to (f + 1) a = none := by
  subst h; simp [walkF, h4, hs]
theorem walkF_go {to a p : Int} {f : Nat} (h : tabG (countG W H) P a to = p) (h4 : p ≠ 4) (hs : stepsG W H L a p = true) : walkF W H L P to (f + 1) a = (walkF W H L P to f (nextG W H a p)).map ((4 * a + p) :: ·) := by
  subst h; simp [walkF, h4, hs]
/-- A walk of which the first channels are known. -/
def restG (W H : Int) (L P : List Int) (to : Int) (acc : List Int) (f : Nat) (a : Int) : List Int := ((walkF W H L P to f a).map (acc ++ ·)).getD []
theorem rest_start (a b : Int) : restG W H L P b [] ((countG W H).toNat + 1) a = walkOf W H L P a b := by
  unfold restG walkOf
  cases walkF W H L P b ((countG W H).toNat + 1) a <;> simp
theorem rest_zero (to a : Int) (acc : List Int) : restG W H L P to acc 0 a = [] := rfl
theorem rest_end {to a : Int} {f : Nat} {acc : List Int} (h : tabG (countG W H) P a to = 4) (he : a = to) : restG W H L P to acc (f + 1) a = acc := by simp [restG, walkF_end h he]
theorem rest_lost {to a : Int} {f : Nat} {acc : List Int} (h : tabG (countG W H) P a to = 4) (he : a ≠ to) : restG W H L P to acc (f + 1) a = [] := by simp [restG, walkF_lost h he]
theorem rest_bad {to a p : Int} {f : Nat} {acc : List Int} (h : tabG (countG W H) P a to = p) (h4 : p ≠ 4) (hs : stepsG W H L a p = false) : restG W H L P to acc (f + 1) a = [] := by simp [restG, walkF_bad h h4 hs]
theorem rest_go {to a p : Int} {f : Nat} {acc : List Int} (h : tabG (countG W H) P a to = p) (h4 : p ≠ 4) (hs : stepsG W H L a p = true) : restG W H L P to acc (f + 1) a = restG W H L P to (acc ++ [4 * a + p]) f (nextG W H a p) := by
  simp only [restG, walkF_go h h4 hs, Option.map_map]
  congr 2
  funext x
  simp
theorem steps_next {a p : Int} (h : stepsG W H L a p = true) : 0 ≤ p ∧ p ≤ 3 ∧ hasChG W H L (4 * a + p) = true := by
  simp only [stepsG, Bool.and_eq_true, decide_eq_true_eq] at h; exact ⟨h.1.1, h.1.2, h.2⟩
theorem step_has {a p : Int} (h : stepsG W H L a p = true) : hasG W H (nextG W H a p) = true := by
  obtain ⟨h0, h3, hc⟩ := steps_next h
  simp only [hasChG, Bool.and_eq_true] at hc
  have h1 : 0 ≤ 4 * a + p ∧ 4 * a + p < 4 * countG W H ∧ 0 ≤ nextG W H ((4 * a + p) / 4) ((4 * a + p) % 4) := by simpa [leadsG] using hc.1
  have e1 : (4 * a + p) / 4 = a := by omega
  have e2 : (4 * a + p) % 4 = p := by omega
  rw [e1, e2] at h1
  exact next_has h1.2.2
theorem walkF_len {to : Int} : ∀ (f : Nat) (a : Int) (l : List Int), walkF W H L P to f a = some l → l.length < f
  | 0, _, _, h => by simp [walkF] at h
  | f + 1, a, l, h => by
    rw [walkF] at h
    split at h
    · split at h
      · cases h; simp
      · cases h
    · split at h
      · rw [Option.map_eq_some_iff] at h
        obtain ⟨m, hm, rfl⟩ := h
        have := walkF_len f _ m hm
        simp; omega
      · cases h
theorem walkOf_len (a b : Int) : (walkOf W H L P a b).length ≤ 16 := by
  unfold walkOf
  have hc := countG_le W H
  cases h : walkF W H L P b ((countG W H).toNat + 1) a with
  | none => simp
  | some l => have := walkF_len _ _ _ h; simp; omega

/-- The pairs of nodes up to i are in order. -/
def pairsTo (W H : Int) (L P : List Int) (a b : Nat) : Prop :=
  (∀ x y : Nat, x < a → (y : Int) < countG W H → entryG W H L P x y = true) ∧ ∀ y : Nat, y < b → entryG W H L P a y = true
theorem pairs_zero : pairsTo W H L P 0 0 := ⟨fun _ _ h => by omega, fun _ h => by omega⟩
theorem pairs_next {a b : Nat} (h : pairsTo W H L P a b) (he : entryG W H L P a b = true) : pairsTo W H L P a (b + 1) :=
  ⟨h.1, fun y hy => by
    rcases Nat.lt_succ_iff_lt_or_eq.1 hy with h1 | rfl
    · exact h.2 y h1
    · exact he⟩
theorem pairs_row {a b : Nat} (h : pairsTo W H L P a b) (hb : (b : Int) = countG W H) : pairsTo W H L P (a + 1) 0 :=
  ⟨fun x y hx hy => by
    rcases Nat.lt_succ_iff_lt_or_eq.1 hx with h1 | rfl
    · exact h.1 x y h1 hy
    · exact h.2 y (by omega), fun _ h => by omega⟩
theorem tableG_yes {a b : Nat} (hs : sizedG W H L P = true) (h : pairsTo W H L P a b) (ha : (a : Int) = countG W H) : tableG W H L P = true := by
  simp only [tableG, hs, Bool.true_and, List.all_eq_true, List.mem_range]
  intro x hx y hy
  exact h.1 x y (by omega) (by omega)
theorem tableG_no {a b : Nat} (ha : (a : Int) < countG W H) (hb : (b : Int) < countG W H) (h : entryG W H L P a b = false) : tableG W H L P = false := by
  cases ht : tableG W H L P with
  | false => rfl
  | true =>
    simp only [tableG, Bool.and_eq_true, List.all_eq_true, List.mem_range] at ht
    have := ht.2 a (by omega) b (by omega)
    rw [h] at this
    cases this
theorem tableG_unsized (h : sizedG W H L P = false) : tableG W H L P = false := by simp [tableG, h]
theorem tableG_sized (h : tableG W H L P = true) : sizedG W H L P = true := by simp only [tableG, Bool.and_eq_true] at h; exact h.1
theorem tableG_entry {a b : Int} (h : tableG W H L P = true) (ha : hasG W H a = true) (hb : hasG W H b = true) : entryG W H L P a b = true := by
  simp only [tableG, Bool.and_eq_true, List.all_eq_true, List.mem_range] at h
  have h1 := hasG_iff.1 ha
  have h2 := hasG_iff.1 hb
  have := h.2 a.toNat (by omega) b.toNat (by omega)
  rwa [Int.toNat_of_nonneg h1.1, Int.toNat_of_nonneg h2.1] at this
theorem entry_same {a : Int} : entryG W H L P a a = decide (tabG (countG W H) P a a = 4) := by simp [entryG]
theorem entry_two {a b : Int} (h : a ≠ b) : entryG W H L P a b = !(walkOf W H L P a b).isEmpty := by simp [entryG, h]

theorem mostTo_le {i k : Nat} (h : i < k) : lenAt W H L P i ≤ mostTo W H L P k := by
  induction k with
  | zero => omega
  | succ k ih =>
    rw [mostTo]
    rcases Nat.lt_succ_iff_lt_or_eq.1 h with h1 | rfl
    · exact Nat.le_trans (ih h1) (Nat.le_max_left _ _)
    · exact Nat.le_max_right _ _
theorem mostTo_16 (k : Nat) : mostTo W H L P k ≤ 16 := by
  induction k with
  | zero => simp [mostTo]
  | succ k ih => rw [mostTo]; have := walkOf_len (W := W) (H := H) (L := L) (P := P) ((k : Int) / countG W H) ((k : Int) % countG W H); unfold lenAt; omega
/-- Pair i of the square is two nodes. -/
theorem pair_at {i : Nat} (h : i < sqG W H) : hasG W H ((i : Int) / countG W H) = true ∧ hasG W H ((i : Int) % countG W H) = true := by
  have hc := countG_le W H
  unfold sqG at h
  have hk : 0 < countG W H := by
    rcases Int.lt_or_le 0 (countG W H) with h1 | h1
    · exact h1
    · have : (countG W H).toNat = 0 := by omega
      rw [this] at h; omega
  have e : (i : Int) < countG W H * countG W H := by
    have : ((countG W H).toNat : Int) = countG W H := Int.toNat_of_nonneg hc.1
    rw [← this]; exact_mod_cast h
  exact ⟨hasG_iff.2 ⟨Int.ediv_nonneg (by omega) hc.1, Int.ediv_lt_of_lt_mul hk e⟩, hasG_iff.2 ⟨Int.emod_nonneg _ (by omega), Int.emod_lt_of_pos _ hk⟩⟩
theorem sq_int (W H : Int) : (sqG W H : Int) = countG W H * countG W H := by
  have := countG_le W H
  unfold sqG
  rw [Int.natCast_mul, Int.toNat_of_nonneg this.1]
theorem sq_le (W H : Int) : sqG W H ≤ 256 := by
  have h := countG_le W H
  have : (countG W H).toNat ≤ 16 := by omega
  exact Nat.mul_le_mul this this
theorem walk_le {a b : Int} (ha : hasG W H a = true) (hb : hasG W H b = true) : (walkOf W H L P a b).length ≤ mostTo W H L P (sqG W H) := by
  have h1 := hasG_iff.1 ha
  have h2 := hasG_iff.1 hb
  have h3 := tab_at (k := countG W H) (n := sqG W H) (sq_int W H) h1.1 h1.2 h2.1 h2.2
  have e1 : (((a * countG W H + b).toNat : Nat) : Int) = a * countG W H + b := Int.toNat_of_nonneg h3.1
  have e2 : (a * countG W H + b) / countG W H = a := by
    rw [Int.add_comm, Int.add_mul_ediv_right _ _ (by omega), Int.ediv_eq_zero_of_lt h2.1 h2.2]; omega
  have e3 : (a * countG W H + b) % countG W H = b := by
    rw [Int.add_comm, Int.add_mul_emod_self_right]; exact Int.emod_eq_of_lt h2.1 h2.2
  have := mostTo_le (W := W) (H := H) (L := L) (P := P) (i := (a * countG W H + b).toNat) (k := sqG W H) (by omega)
  unfold lenAt at this
  rwa [e1, e2, e3] at this
/-- The first k pairs are minimal. -/
def minTo (W H : Int) (L P : List Int) (k : Nat) : Prop := ∀ i, i < k → minAt W H L P i = true
theorem minTo_zero : minTo W H L P 0 := fun _ h => by omega
theorem minTo_succ {k : Nat} (h : minTo W H L P k) (hk : minAt W H L P k = true) : minTo W H L P (k + 1) := fun i hi => by
  rcases Nat.lt_succ_iff_lt_or_eq.1 hi with h1 | rfl
  · exact h i h1
  · exact hk
theorem minimalG_yes (ht : tableG W H L P = true) (h : minTo W H L P (sqG W H)) : minimalG W H L P = true := by
  simp only [minimalG, ht, Bool.true_and, List.all_eq_true, List.mem_range]; exact h
theorem minimalG_no {i : Nat} (hi : i < sqG W H) (h : minAt W H L P i = false) : minimalG W H L P = false := by
  cases hm : minimalG W H L P with
  | false => rfl
  | true =>
    simp only [minimalG, Bool.and_eq_true, List.all_eq_true, List.mem_range] at hm
    have := hm.2 i hi
    rw [h] at this
    cases this
theorem minimalG_bad (h : tableG W H L P = false) : minimalG W H L P = false := by simp [minimalG, h]
end
end Go.Proofs.YtidilfakganooaaGreatDoor
end

section
namespace Go.Proofs.YtidilfakganooaaGreatDoor
open Go.ChangeShapes Go.WideShapes Go.ChangeAt Go.RowKit
set_option linter.unusedVariables false

/-- 256 zeros. -/
def zerosX : List Int := List.replicate 256 0
theorem zerosX_length : zerosX.length = 256 := List.length_replicate
/-- The square after the first i pairs of k nodes were written. -/
def sqTo (k : Nat) (f : Nat → Int) : Nat → List Int
  | 0 => zerosX
  | i + 1 => (sqTo k f i).set (16 * (i / k) + i % k) (f i)
theorem sqTo_length (k : Nat) (f : Nat → Int) (i : Nat) : (sqTo k f i).length = 256 := by
  induction i with
  | zero => exact zerosX_length
  | succ i ih => rw [sqTo, List.length_set]; exact ih
theorem pair_div {a b k : Nat} (hb : b < k) : (a * k + b) / k = a := by
  rw [Nat.add_comm, Nat.add_mul_div_right _ _ (by omega), Nat.div_eq_of_lt hb]; omega
theorem pair_mod {a b k : Nat} (hb : b < k) : (a * k + b) % k = b := by
  rw [Nat.add_comm, Nat.add_mul_mod_self_right]; exact Nat.mod_eq_of_lt hb
theorem sqTo_at {k a b i : Nat} (f : Nat → Int) (hk : k ≤ 16) (ha : a < k) (hb : b < k) (h : a * k + b < i) : (sqTo k f i).getD (16 * a + b) 0 = f (a * k + b) := by
  induction i with
  | zero => omega
  | succ i ih =>
    rw [sqTo, List.getD_eq_getElem?_getD, List.getElem?_set]
    have hm : i % k < k := Nat.mod_lt _ (by omega)
    by_cases e : a * k + b = i
    · have e1 : i / k = a := by rw [← e]; exact pair_div hb
      have e2 : i % k = b := by rw [← e]; exact pair_mod hb
      rw [e1, e2, if_pos rfl, if_pos (by rw [sqTo_length]; omega), e]
      rfl
    · have hne : ¬ 16 * (i / k) + i % k = 16 * a + b := fun he => by
        have e1 : i / k = a := by omega
        have e2 : i % k = b := by omega
        have := Nat.div_add_mod i k
        rw [e1, e2, Nat.mul_comm] at this
        exact e this
      rw [if_neg hne, ← List.getD_eq_getElem?_getD]
      exact ih (by omega)
theorem sqTo_mem {k i : Nat} {f : Nat → Int} {x : Int} (h : x ∈ sqTo k f i) : x = 0 ∨ ∃ j, j < i ∧ x = f j := by
  induction i with
  | zero => exact .inl (List.eq_of_mem_replicate h)
  | succ i ih =>
    rcases List.mem_or_eq_of_mem_set h with h1 | h1
    · rcases ih h1 with h2 | ⟨j, hj, h2⟩
      · exact .inl h2
      · exact .inr ⟨j, by omega, h2⟩
    · exact .inr ⟨i, by omega, h1⟩

/-- The greatest of the first n numbers, at least 0. -/
def topTo (X : List Int) : Nat → Int
  | 0 => 0
  | n + 1 => max (topTo X n) (X.getD n 0)
/-- The greatest of the first i + 1 numbers. -/
def mxTo (R : List Int) : Nat → Int
  | 0 => R.getD 0 0
  | i + 1 => max (mxTo R i) (R.getD (i + 1) 0)
theorem top_row {X R : List Int} {s : Nat} (i : Nat) (h : ∀ j, j ≤ i → R.getD j 0 = X.getD (s + j) 0) : max (topTo X s) (mxTo R i) = topTo X (s + i + 1) := by
  induction i with
  | zero => rw [mxTo, h 0 (Nat.le_refl _)]; rfl
  | succ i ih =>
    rw [mxTo, ← Int.max_assoc, ih (fun j hj => h j (by omega)), h (i + 1) (Nat.le_refl _)]
    rfl
theorem topTo_le {X : List Int} {m : Int} (hm : 0 ≤ m) (h : ∀ x ∈ X, x ≤ m) (n : Nat) : topTo X n ≤ m := by
  induction n with
  | zero => exact hm
  | succ n ih =>
    rw [topTo]
    refine Int.max_le.2 ⟨ih, ?_⟩
    rw [List.getD_eq_getElem?_getD]
    cases hx : X[n]? with
    | none => exact hm
    | some x => exact h x (List.mem_of_getElem? hx)
theorem le_topTo {X : List Int} {i n : Nat} (h : i < n) : X.getD i 0 ≤ topTo X n := by
  induction n with
  | zero => omega
  | succ n ih =>
    rw [topTo]
    rcases Nat.lt_succ_iff_lt_or_eq.1 h with h1 | rfl
    · exact Int.le_trans (ih h1) (Int.le_max_left _ _)
    · exact Int.le_max_right _ _
theorem topTo_nonneg (X : List Int) (n : Nat) : 0 ≤ topTo X n := by
  induction n with
  | zero => exact Int.le_refl _
  | succ n ih => rw [topTo]; exact Int.le_trans ih (Int.le_max_left _ _)
/-- A list that is given at all its indices is between. -/
theorem mxTo_le {R : List Int} {m : Int} (h : ∀ j, R.getD j 0 ≤ m) (i : Nat) : mxTo R i ≤ m := by
  induction i with
  | zero => exact h 0
  | succ i ih => rw [mxTo]; exact Int.max_le.2 ⟨ih, h _⟩

/-- The port of an entry: -1 outside of the range 0 to 4. -/
def portP (p : Int) : Int := if p < 0 ∨ 4 < p then -1 else p
theorem portP_bounds (p : Int) : -1 ≤ portP p ∧ portP p ≤ 4 := by unfold portP; split <;> omega
theorem portP_in {p : Int} (h0 : 0 ≤ p) (h1 : p ≤ 4) : portP p = p := if_neg (by omega)
theorem portP_out {p : Int} (h : p < 0 ∨ 4 < p) : portP p = -1 := if_pos h
theorem portP_four {p : Int} : portP p = 4 ↔ p = 4 := by unfold portP; split <;> omega
theorem portP_in_of {p q : Int} (h : portP p = q) (h0 : 0 ≤ q) : p = q := by unfold portP at h; split at h <;> omega

section
variable {W H : Int} {L P : List Int}
/-- The nodes of a grid. -/
def cntN (W H : Int) : Nat := (countG W H).toNat
theorem cntN_int (W H : Int) : (cntN W H : Int) = countG W H := Int.toNat_of_nonneg (countG_le W H).1
theorem cntN_le (W H : Int) : cntN W H ≤ 16 := by have := countG_le W H; have := cntN_int W H; omega
/-- The table as a square of ports. -/
def portsX (W H : Int) (P : List Int) (i : Nat) : List Int := sqTo (cntN W H) (fun j => portP (P.getD j 0)) i
/-- The lengths of the walks as a square. -/
def lensX (W H : Int) (L P : List Int) (i : Nat) : List Int := sqTo (cntN W H) (fun j => (lenAt W H L P j : Int)) i
/-- The square holds the ports of the table. -/
def isPorts (W H : Int) (P X : List Int) : Prop := X.length = 256 ∧ ∀ a b : Nat, (a : Int) < countG W H → (b : Int) < countG W H → X.getD (16 * a + b) 0 = portP (tabG (countG W H) P a b)
theorem sq_lt {k a b : Nat} (ha : a < k) (hb : b < k) : a * k + b < k * k := by
  have : (a + 1) * k ≤ k * k := Nat.mul_le_mul_right _ (by omega)
  rw [Nat.add_mul, Nat.one_mul] at this
  omega
theorem portsX_is (hs : sizedG W H L P = true) : isPorts W H P (portsX W H P P.length) := by
  refine ⟨sqTo_length _ _ _, fun a b ha hb => ?_⟩
  have hk := cntN_int W H
  have hp := (sizedG_mesh hs).2
  have hpn : P.length = cntN W H * cntN W H := by rw [← hk] at hp; exact_mod_cast hp
  rw [portsX, sqTo_at _ (cntN_le W H) (by omega) (by omega) (by rw [hpn]; exact sq_lt (by omega) (by omega))]
  rw [tabG, ← hk, show ((a : Int) * (cntN W H : Int) + (b : Int)).toNat = a * cntN W H + b by rw [← Int.natCast_mul, ← Int.natCast_add, Int.toNat_natCast]]
theorem lensX_top : topTo (lensX W H L P (sqG W H)) 256 = (mostTo W H L P (sqG W H) : Int) := by
  have hk := cntN_le W H
  refine Int.le_antisymm (topTo_le (by omega) (fun x hx => ?_) _) ?_
  · rcases sqTo_mem hx with rfl | ⟨j, hj, rfl⟩
    · omega
    · exact_mod_cast mostTo_le hj
  · have h : ∀ i, i ≤ sqG W H → (mostTo W H L P i : Int) ≤ topTo (lensX W H L P (sqG W H)) 256 := fun i => by
      induction i with
      | zero => intro _; exact topTo_nonneg _ _
      | succ i ih =>
        intro hi
        rw [mostTo]
        have h1 := ih (by omega)
        have hlt : i < cntN W H * cntN W H := hi
        have hk0 : 0 < cntN W H := Nat.pos_of_ne_zero fun e => by rw [e] at hlt; omega
        have hd : i / cntN W H < cntN W H := Nat.div_lt_of_lt_mul hlt
        have hm : i % cntN W H < cntN W H := Nat.mod_lt _ hk0
        have he : i / cntN W H * cntN W H + i % cntN W H = i := by rw [Nat.mul_comm]; exact Nat.div_add_mod _ _
        have h2 := sqTo_at (fun j => (lenAt W H L P j : Int)) hk hd hm (i := sqG W H) (by omega)
        have h3 := le_topTo (X := lensX W H L P (sqG W H)) (i := 16 * (i / cntN W H) + i % cntN W H) (n := 256) (by omega)
        rw [lensX, h2, he] at h3
        rw [lensX] at h1 ⊢
        omega
    exact h _ (Nat.le_refl _)
/-- The number of a pair. -/
theorem lenAt_pair {a b : Nat} (hb : (b : Int) < countG W H) : lenAt W H L P (a * cntN W H + b) = (walkOf W H L P a b).length := by
  have hk := cntN_int W H
  have e1 : ((a * cntN W H + b : Nat) : Int) / countG W H = a := by
    rw [← hk, ← Int.natCast_ediv, pair_div (by omega)]
  have e2 : ((a * cntN W H + b : Nat) : Int) % countG W H = b := by
    rw [← hk, ← Int.natCast_emod, pair_mod (by omega)]
  rw [lenAt, e1, e2]

/-- The walk ends. -/
def endsG (W H : Int) (L P : List Int) (a b : Int) : Bool := (walkF W H L P b ((countG W H).toNat + 1) a).isSome
theorem walkF_never {to : Int} (h : tabG (countG W H) P to to ≠ 4) : ∀ (f : Nat) (a : Int), walkF W H L P to f a = none
  | 0, _ => rfl
  | f + 1, a => by
    rw [walkF]
    split
    · rename_i h4
      rw [if_neg (fun e => by subst e; exact h h4)]
    · split
      · rw [walkF_never h f]; rfl
      · rfl
theorem ends_entry (a b : Int) : endsG W H L P a b = entryG W H L P a b := by
  by_cases e : a = b
  · subst e
    rw [entry_same, endsG]
    by_cases h4 : tabG (countG W H) P a a = 4
    · rw [walkF_end h4 rfl, h4]; rfl
    · rw [walkF_never h4]; simp [h4]
  · rw [entry_two e, endsG, walkOf]
    by_cases h4 : tabG (countG W H) P a b = 4
    · rw [walkF_lost h4 e]; rfl
    · cases hs : stepsG W H L a (tabG (countG W H) P a b) with
      | false => rw [walkF_bad rfl h4 hs]; rfl
      | true =>
        rw [walkF_go rfl h4 hs]
        cases walkF W H L P b (countG W H).toNat (nextG W H a (tabG (countG W H) P a b)) <;> simp
theorem walkOf_same (a : Int) : walkOf W H L P a a = [] := by
  rw [walkOf]
  by_cases h4 : tabG (countG W H) P a a = 4
  · rw [walkF_end h4 rfl]; rfl
  · rw [walkF_never h4]; rfl
theorem walkG_ask {a b : Int} (h : askG W H L P a b = true) : walkG W H L P a b = walkOf W H L P a b := by
  by_cases e : a = b
  · subst e; rw [walkOf_same, walkG, if_neg (by simp)]
  · rw [walkG, if_pos ⟨h, e⟩]
theorem walkG_no {a b : Int} (h : askG W H L P a b = false) : walkG W H L P a b = [] := by rw [walkG, if_neg (by simp [h])]
theorem portAtG_ask {a b : Int} (h : askG W H L P a b = true) : portAtG W H L P a b = portP (tabG (countG W H) P a b) := by
  unfold portAtG portP
  by_cases h2 : 0 ≤ tabG (countG W H) P a b ∧ tabG (countG W H) P a b ≤ 4
  · rw [if_pos ⟨h, h2⟩, if_neg (by omega)]
  · rw [if_neg (fun e => h2 e.2), if_pos (by omega)]
theorem portAtG_no {a b : Int} (h : askG W H L P a b = false) : portAtG W H L P a b = -1 := by rw [portAtG, if_neg (by simp [h])]
/-- Whether the rest of a walk ends. -/
def restE (W H : Int) (L P : List Int) (to : Int) (f : Nat) (a : Int) : Bool := (walkF W H L P to f a).isSome
theorem restE_start (a b : Int) : restE W H L P b ((countG W H).toNat + 1) a = endsG W H L P a b := rfl
theorem restE_end {to a : Int} {f : Nat} (h : tabG (countG W H) P a to = 4) (he : a = to) : restE W H L P to (f + 1) a = true := by rw [restE, walkF_end h he]; rfl
theorem restE_lost {to a : Int} {f : Nat} (h : tabG (countG W H) P a to = 4) (he : a ≠ to) : restE W H L P to (f + 1) a = false := by rw [restE, walkF_lost h he]; rfl
theorem restE_bad {to a p : Int} {f : Nat} (h : tabG (countG W H) P a to = p) (h4 : p ≠ 4) (hs : stepsG W H L a p = false) : restE W H L P to (f + 1) a = false := by rw [restE, walkF_bad h h4 hs]; rfl
theorem restE_go {to a p : Int} {f : Nat} (h : tabG (countG W H) P a to = p) (h4 : p ≠ 4) (hs : stepsG W H L a p = true) : restE W H L P to (f + 1) a = restE W H L P to f (nextG W H a p) := by
  rw [restE, walkF_go h h4 hs, restE]
  cases walkF W H L P to f (nextG W H a p) <;> rfl
end
end Go.Proofs.YtidilfakganooaaGreatDoor
end

section
namespace Go.Proofs.YtidilfakganooaaGreatDoor
open Go.ChangeShapes Go.WideShapes Go.ChangeAt Go.RowKit
set_option linter.unusedVariables false

theorem boxi_blk {w w1 : World} {T : TypeId} {cs : Array Value} (h : (w.alloc (.cells cs T)).grownBy w1 none) : Blk w1 w.heap.size T cs := (Blk.new w T cs).grown h (by simp)
theorem boxi_gb {w w1 : World} {o : Obj} (h : (w.alloc o).grownBy w1 none) : w.grownBy w1 none := gb_trans (gb_alloc (gb_refl _ _) _) h

theorem implGridOk (W H : Int) (w : World) :
    Calls Tryz.prog 79 #[.agg #[.int .i64 W, .int .i64 H]] w (RetB (okG W H) w) := by
  by_cases h1 : W ≥ 1 <;> by_cases h2 : W ≤ 4 <;> by_cases h3 : H ≥ 1 <;> by_cases h4 : H ≤ 4
  all_goals first | (exfalso; omega) | skip
  all_goals
    go_enter Tryz.func79, Tryz.ntmps79
    go_wp2_with fail
    go_ret
    exact ⟨ret_bool (by simp [okG] <;> omega), gb_alloc (gb_refl _ _) _⟩

theorem implNodeCount (W H : Int) (w : World) :
    Calls Tryz.prog 71 #[.agg #[.int .i64 W, .int .i64 H]] w (RetI (countG W H) none w) := by
  cases hok : okG W H with
  | true =>
    obtain ⟨hW, hH⟩ := okG_cases hok
    have hm : wrap64 (W * H) = countG W H := by
      simp only [countG, hok, if_true]
      rcases hW with rfl | rfl | rfl | rfl <;> rcases hH with rfl | rfl | rfl | rfl <;> exact IntWalk.wrap64_in _ (by omega)
    have Hm := Lib.hid hm
    clear hW hH hm
    go_enter Tryz.func71, Tryz.ntmps71
    go_wp2_with fail
    refine (implGridOk W H _).mono ?_
    rintro e w1 ⟨rfl, hg⟩
    have hb := boxi_blk hg
    have c0 : w1.cell? ⟨w.heap.size, 0, none⟩ = some (.int .i64 W) := hb.cell 0
    have c1 : w1.cell? ⟨w.heap.size, 1, none⟩ = some (.int .i64 H) := hb.cell 1
    have Hg := Lib.hid hg
    clear hg hb
    rw [hok]
    go_wp2_with fail
    go_ret
    exact ⟨ret_int64 (by rw [← Hm.out]), boxi_gb Hg.out⟩
  | false =>
    go_enter Tryz.func71, Tryz.ntmps71
    go_wp2_with fail
    refine (implGridOk W H _).mono ?_
    rintro e w1 ⟨rfl, hg⟩
    rw [hok]
    go_wp2_with fail
    go_ret
    exact ⟨ret_int64 (by simp [countG, hok]), boxi_gb hg⟩

theorem implHasNode (W H n : Int) (w : World) :
    Calls Tryz.prog 123 #[.agg #[.int .i64 W, .int .i64 H], .int .i64 n] w (RetB (hasG W H n) w) := by
  obtain ⟨k, hk⟩ : ∃ k, countG W H = k := ⟨_, rfl⟩
  by_cases h0 : n ≥ 0
  · by_cases h1 : n < k
    all_goals
      go_enter Tryz.func123, Tryz.ntmps123
      go_wp2_with fail
      refine (implNodeCount W H _).mono ?_
      rintro e w1 ⟨rfl, hg⟩
      rw [hk]
      go_wp2_with fail
      go_ret
      exact ⟨ret_bool (by simp [hasG, hk]; omega), boxi_gb hg⟩
  · go_enter Tryz.func123, Tryz.ntmps123
    go_wp2_with fail
    go_ret
    exact ⟨ret_bool (by simp [hasG, hk]; omega), gb_alloc (gb_refl _ _) _⟩

def hasPlaceG (W H x y : Int) : Bool := decide (okG W H = true ∧ 0 ≤ x ∧ x < W ∧ 0 ≤ y ∧ y < H)

theorem implHasPlace (W H x y : Int) (w : World) :
    Calls Tryz.prog 129 #[.agg #[.int .i64 W, .int .i64 H], .int .i64 x, .int .i64 y] w (RetB (hasPlaceG W H x y) w) := by
  cases hok : okG W H with
  | true =>
    obtain ⟨p1, p2, p3, p4⟩ := okG_iff.1 hok
    by_cases h1 : x ≥ 0 <;> by_cases h2 : x < W <;> by_cases h3 : y ≥ 0 <;> by_cases h4 : y < H
    all_goals first | (exfalso; omega) | skip
    all_goals
      go_enter Tryz.func129, Tryz.ntmps129
      go_wp2_with fail
      refine (implGridOk W H _).mono ?_
      rintro e w1 ⟨rfl, hg⟩
      have hb := boxi_blk hg
      have c0 := hb.cell 0
      have c1 := hb.cell 1
      have Hg := Lib.hid hg
      clear hg hb
      simp at c0 c1
      rw [hok]
      go_wp2_with fail
      go_ret
      exact ⟨ret_bool (by
        unfold hasPlaceG
        first
        | exact (decide_eq_true ⟨hok, by omega⟩).symm
        | exact (decide_eq_false (fun h => by have := h.2; omega)).symm
        | exact decide_eq_decide.2 ⟨fun h => by omega, fun h => h.2.2.2.2⟩), boxi_gb Hg.out⟩
  | false =>
    go_enter Tryz.func129, Tryz.ntmps129
    go_wp2_with fail
    refine (implGridOk W H _).mono ?_
    rintro e w1 ⟨rfl, hg⟩
    rw [hok]
    go_wp2_with fail
    go_ret
    exact ⟨ret_bool (by simp [hasPlaceG, hok]), boxi_gb hg⟩

theorem implNodeAt (W H x y : Int) (w : World) :
    Calls Tryz.prog 125 #[.agg #[.int .i64 W, .int .i64 H], .int .i64 x, .int .i64 y] w (RetI (atG W H x y) none w) := by
  cases hp : hasPlaceG W H x y with
  | true =>
    obtain ⟨hok, hx0, hx1, hy0, hy1⟩ : okG W H = true ∧ 0 ≤ x ∧ x < W ∧ 0 ≤ y ∧ y < H := by simpa [hasPlaceG] using hp
    obtain ⟨hW, hH⟩ := okG_cases hok
    rcases hW with rfl | rfl | rfl | rfl
    all_goals
      go_enter Tryz.func125, Tryz.ntmps125
      go_wp2_with fail
      refine (implHasPlace _ H x y _).mono ?_
      rintro e w1 ⟨rfl, hg⟩
      have hb := boxi_blk hg
      have c0 := hb.cell 0
      have Hg := Lib.hid hg
      clear hg hb
      simp at c0
      rw [hp]
      go_wp2_with fail
      go_ret
      exact ⟨ret_int64 (by unfold atG; rw [if_pos ⟨hok, by omega⟩] <;> omega), boxi_gb Hg.out⟩
  | false =>
    go_enter Tryz.func125, Tryz.ntmps125
    go_wp2_with fail
    refine (implHasPlace W H x y _).mono ?_
    rintro e w1 ⟨rfl, hg⟩
    rw [hp]
    go_wp2_with fail
    go_ret
    exact ⟨ret_int64 (by unfold atG; rw [if_neg (by simpa [hasPlaceG] using hp)]), boxi_gb hg⟩
end Go.Proofs.YtidilfakganooaaGreatDoor
end

section
namespace Go.Proofs.YtidilfakganooaaGreatDoor
open Go.ChangeShapes Go.WideShapes Go.ChangeAt Go.RowKit
set_option linter.unusedVariables false

/-- Numbers as the cells of a block. -/
def cellsX (X : List Int) : Array Value := (intsV X).toArray
theorem cellsX_size (X : List Int) : (cellsX X).size = X.length := by simp [cellsX, intsV_length]
theorem cellsX_at {X : List Int} {i : Nat} {x : Int} (hi : i < X.length) (h : X.getD i 0 = x) : (cellsX X)[i]? = some (.int .i64 x) := by
  rw [List.getD_eq_getElem?_getD, List.getElem?_eq_getElem hi] at h
  simp only [Option.getD_some] at h
  simp [cellsX, intsV, List.getElem?_eq_getElem hi, h]
theorem cellsX_set (X : List Int) (i : Nat) (x : Int) : (cellsX X).setIfInBounds i (.int .i64 x) = cellsX (X.set i x) := by
  simp [cellsX, intsV_set]
theorem cellsX_one (X : List Int) : (cellsX X).all (·.oneCell') = true := by
  rw [Array.all_eq_true_iff_forall_mem]
  intro v hv
  simp only [cellsX, intsV, List.mem_toArray, List.mem_map] at hv
  obtain ⟨x, _, rfl⟩ := hv
  rfl
theorem zero_cells : Tryz.zeroCells105 = cellsX zerosX := by kernel_rfl
theorem square_info : (Tryz.prog.info? 105).map (·.size) = some 256 := by kernel_rfl

section
variable {w : World} {g : Nat} {X Y : List Int}
theorem gb_setRow {w : World} {g : Nat} {old cs : Array Value} {t : TypeId} (h : Blk w g t old) : Blk (w.setRow g cs) g t cs ∧ w.grownBy (w.setRow g cs) (some g) := by
  refine ⟨setRow_heap w g old cs t (0, 0) h, rfl, rfl, rfl, ?_, fun i hi hne => ?_⟩
  · simp [World.setRow]
  · have hne' : g ≠ i := fun e => hne (by rw [e])
    simp [World.setRow, Array.getElem?_modify, hne']
theorem load_square (hb : Blk w g 105 (cellsX X)) (hl : X.length = 256) : (loadVar 105 ⟨g, 0, none⟩).run Tryz.prog w = .ok (.agg (cellsX X)) w :=
  run_loadVar_row w g _ _ (cellsX X) (0, 0) _ hb Tryz.underlying105 rfl (by rw [cellsX_size, hl]; exact square_info)
theorem store_square (hb : Blk w g 105 (cellsX X)) (hl : X.length = 256) (hm : Y.length = 256) : (storeVar 105 ⟨g, 0, none⟩ (.agg (cellsX Y))).run Tryz.prog w = .ok () (w.setRow g (cellsX Y)) :=
  run_storeVar_row w g _ _ (cellsX X) (cellsX Y) hb (by rw [cellsX_size, hm]; exact square_info) (by rw [cellsX_size, cellsX_size, hl, hm]) (cellsX_one Y)
end

theorem wpList_loadX {ops : Array Oper} {rest : List Oper} {op : Oper} {a : Act} {w : World} {Q : Exit → Act → World → Prop} (hgd : op.guard = none) (x : Operand) (ho : op.op = .load 105 x)
    (g : Nat) (hx : a.eval x = .pointer (some ⟨g, 0, none⟩)) (X : List Int) (hb : Blk w g 105 (cellsX X)) (hl : X.length = 256)
    (h : wpList Tryz.prog ops Q rest (a.put op.dst (.agg (cellsX X))) w) : wpList Tryz.prog ops Q (op :: rest) a w :=
  wpList_plain hgd fun _ hK => by
    unfold Oper.wp execOp
    simp only [ho, hx, Instr.loadAt, Instr.sureAddr, Sem.run_bind, Sem.run_pure, Result.andThen_ok, load_square hb hl]
    exact hK _ _ h
theorem wpList_storeX {ops : Array Oper} {rest : List Oper} {op : Oper} {a : Act} {w : World} {Q : Exit → Act → World → Prop} (hgd : op.guard = none) (x y : Operand) (ho : op.op = .store 105 x y)
    (g : Nat) (X Y : List Int) (hx : a.eval x = .pointer (some ⟨g, 0, none⟩)) (hy : a.eval y = .agg (cellsX Y)) (hb : Blk w g 105 (cellsX X)) (hl : X.length = 256) (hm : Y.length = 256)
    (h : ∀ w', Blk w' g 105 (cellsX Y) → w.grownBy w' (some g) → wpList Tryz.prog ops Q rest (a.put op.dst undef) w') : wpList Tryz.prog ops Q (op :: rest) a w :=
  wpList_plain hgd fun _ hK => by
    unfold Oper.wp execOp
    simp only [ho, hx, hy, Instr.storeAt, Instr.sureAddr, Sem.run_bind, Sem.run_pure, Result.andThen_ok, store_square hb hl hm]
    exact hK _ _ (h _ (gb_setRow hb).1 (gb_setRow hb).2)

/-- What is written lies in a block of the call's own. -/
theorem gb_new {a b c : World} {g : Nat} (h : a.grownBy b none) (k : b.grownBy c (some g)) (hg : a.heap.size ≤ g) : a.grownBy c none :=
  ⟨k.os.trans h.os, k.tape.trans h.tape, k.output.trans h.output, Nat.le_trans h.size k.size, fun i hi hne => (k.block i (Nat.lt_of_lt_of_le hi h.size) (fun e => by cases e; omega)).trans (h.block i hi hne)⟩

/-- A square and whether there is one. -/
def RetX (X : List Int) (b : Bool) (w : World) (e : Ending) (w' : World) : Prop := e = .returned (.tuple #[.agg (cellsX X), .bool b]) ∧ w.grownBy w' none
end Go.Proofs.YtidilfakganooaaGreatDoor
end

section
namespace Go.Proofs.YtidilfakganooaaGreatDoor
open Go.ChangeShapes Go.WideShapes Go.ChangeAt Go.RowKit
set_option linter.unusedVariables false

/-- A node's column and row. -/
theorem implPlace (W H n x y : Int) (hh : hasG W H n = true) (hx : n % W = x) (hy : n / W = y) (w : World) :
    Calls Tryz.prog 124 #[.agg #[.int .i64 W, .int .i64 H], .int .i64 n] w fun e w' => e = .returned (.tuple #[.int .i64 x, .int .i64 y]) ∧ w.grownBy w' none := by
  obtain ⟨hW, hH⟩ := okG_cases (hasG_ok hh).1
  obtain ⟨h0, h1⟩ := hasG_le hh
  have hq := row_wrap h0 h1 hW
  have da : n.tdiv W = y := by rw [Int.tdiv_eq_ediv_of_nonneg h0]; exact hy
  have ta : n.tmod W = x := by rw [Int.tmod_eq_emod_of_nonneg h0]; exact hx
  obtain ⟨a0, a1, a2, a3, a4⟩ := place_of hh
  rw [hx] at a0 a1
  rw [hy] at a2 a3
  have hWn : W ≠ 0 := by omega
  have hW1 : 1 ≤ W := by omega
  have hW2 : W ≤ 4 := by omega
  have hH2 : H ≤ 4 := by omega
  clear hW hH hx hy hq a4 h0
  go_enter Tryz.func124, Tryz.ntmps124
  go_wp2_with fail
  go_quiet (fail)
  go_wp2_with fail
  go_ret2
  exact ⟨rfl, gb_drewN (gb_alloc (gb_refl _ _) _) _⟩

theorem gb_undrew {a b : World} {row : Option Nat} (h : a.drew.grownBy b row) : a.grownBy b row := ⟨h.os, h.tape, h.output, h.size, h.block⟩
end Go.Proofs.YtidilfakganooaaGreatDoor
end

section
namespace Go.Proofs.YtidilfakganooaaGreatDoor
open Go.ChangeShapes Go.WideShapes Go.ChangeAt Go.RowKit
set_option linter.unusedVariables false

theorem implNodeAtV (W H x y n : Int) (h : atG W H x y = n) (w : World) :
    Calls Tryz.prog 125 #[.agg #[.int .i64 W, .int .i64 H], .int .i64 x, .int .i64 y] w (RetI n none w) := h ▸ implNodeAt W H x y w

theorem implNextNode (W H n p : Int) (w : World) :
    Calls Tryz.prog 114 #[.agg #[.int .i64 W, .int .i64 H], .int .i64 n, .int .i64 p] w (RetI (nextG W H n p) none w) := by
  cases hh : hasG W H n with
  | true =>
    obtain ⟨hW, hH⟩ := okG_cases (hasG_ok hh).1
    obtain ⟨a0, a1, a2, a3, a4⟩ := place_of hh
    have hN : nextG W H n p = (if p = 0 then atG W H (n % W) (n / W - 1) else if p = 1 then atG W H (n % W + 1) (n / W) else if p = 2 then atG W H (n % W) (n / W + 1) else if p = 3 then atG W H (n % W - 1) (n / W) else if p = 4 then n else -1) := by simp [nextG, hh]
    obtain ⟨x, hx⟩ : ∃ x, n % W = x := ⟨_, rfl⟩
    obtain ⟨y, hy⟩ : ∃ y, n / W = y := ⟨_, rfl⟩
    rw [hx, hy] at hN
    rw [hx] at a0 a1
    rw [hy] at a2 a3
    have x1 : x ≤ 4 := by omega
    have y1 : y ≤ 4 := by omega
    obtain ⟨r, hr⟩ : ∃ r, nextG W H n p = r := ⟨_, rfl⟩
    rw [hr] at hN ⊢
    have HP := Lib.hid (fun w => implPlace W H n x y hh hx hy w)
    clear a1 a3 a4 hW hH hr hx hy
    by_cases p0 : p = 0
    · subst p0
      simp at hN
      go_enter Tryz.func114, Tryz.ntmps114
      go_wp2_with fail
      refine (implHasNode W H n _).mono ?_
      rintro e w1 ⟨rfl, hg⟩
      have hb := boxi_blk hg
      have c0 := hb.cell 0
      have c1 := hb.cell 1
      have Hg := Lib.hid (boxi_gb hg)
      clear hg hb
      simp at c0 c1
      rw [hh]
      go_wp2_with fail
      refine (HP.out _).mono ?_
      rintro e w2 ⟨rfl, hg2⟩
      have d0 := hg2.cell c0 (by simp)
      have d1 := hg2.cell c1 (by simp)
      have Hg2 := Lib.hid (gb_trans Hg.out hg2)
      clear hg2 c0 c1
      go_wp2_with fail
      refine (implNodeAtV W H x (y - 1) r hN.symm _).mono ?_
      rintro e w3 ⟨rfl, hg3⟩
      have Hg3 := Lib.hid (gb_trans Hg2.out hg3)
      clear hg3
      go_wp2_with fail
      go_ret
      exact ⟨ret_int64 hN.symm, Hg3.out⟩
    by_cases p1 : p = 1
    · subst p1
      simp at hN
      go_enter Tryz.func114, Tryz.ntmps114
      go_wp2_with fail
      refine (implHasNode W H n _).mono ?_
      rintro e w1 ⟨rfl, hg⟩
      have hb := boxi_blk hg
      have c0 := hb.cell 0
      have c1 := hb.cell 1
      have Hg := Lib.hid (boxi_gb hg)
      clear hg hb
      simp at c0 c1
      rw [hh]
      go_wp2_with fail
      refine (HP.out _).mono ?_
      rintro e w2 ⟨rfl, hg2⟩
      have d0 := hg2.cell c0 (by simp)
      have d1 := hg2.cell c1 (by simp)
      have Hg2 := Lib.hid (gb_trans Hg.out hg2)
      clear hg2 c0 c1
      go_wp2_with fail
      refine (implNodeAtV W H (x + 1) y r hN.symm _).mono ?_
      rintro e w3 ⟨rfl, hg3⟩
      have Hg3 := Lib.hid (gb_trans Hg2.out hg3)
      clear hg3
      go_wp2_with fail
      go_ret
      exact ⟨ret_int64 hN.symm, Hg3.out⟩
    by_cases p2 : p = 2
    · subst p2
      simp at hN
      go_enter Tryz.func114, Tryz.ntmps114
      go_wp2_with fail
      refine (implHasNode W H n _).mono ?_
      rintro e w1 ⟨rfl, hg⟩
      have hb := boxi_blk hg
      have c0 := hb.cell 0
      have c1 := hb.cell 1
      have Hg := Lib.hid (boxi_gb hg)
      clear hg hb
      simp at c0 c1
      rw [hh]
      go_wp2_with fail
      refine (HP.out _).mono ?_
      rintro e w2 ⟨rfl, hg2⟩
      have d0 := hg2.cell c0 (by simp)
      have d1 := hg2.cell c1 (by simp)
      have Hg2 := Lib.hid (gb_trans Hg.out hg2)
      clear hg2 c0 c1
      go_wp2_with fail
      refine (implNodeAtV W H x (y + 1) r hN.symm _).mono ?_
      rintro e w3 ⟨rfl, hg3⟩
      have Hg3 := Lib.hid (gb_trans Hg2.out hg3)
      clear hg3
      go_wp2_with fail
      go_ret
      exact ⟨ret_int64 hN.symm, Hg3.out⟩
    by_cases p3 : p = 3
    · subst p3
      simp at hN
      go_enter Tryz.func114, Tryz.ntmps114
      go_wp2_with fail
      refine (implHasNode W H n _).mono ?_
      rintro e w1 ⟨rfl, hg⟩
      have hb := boxi_blk hg
      have c0 := hb.cell 0
      have c1 := hb.cell 1
      have Hg := Lib.hid (boxi_gb hg)
      clear hg hb
      simp at c0 c1
      rw [hh]
      go_wp2_with fail
      refine (HP.out _).mono ?_
      rintro e w2 ⟨rfl, hg2⟩
      have d0 := hg2.cell c0 (by simp)
      have d1 := hg2.cell c1 (by simp)
      have Hg2 := Lib.hid (gb_trans Hg.out hg2)
      clear hg2 c0 c1
      go_wp2_with fail
      refine (implNodeAtV W H (x - 1) y r hN.symm _).mono ?_
      rintro e w3 ⟨rfl, hg3⟩
      have Hg3 := Lib.hid (gb_trans Hg2.out hg3)
      clear hg3
      go_wp2_with fail
      go_ret
      exact ⟨ret_int64 hN.symm, Hg3.out⟩
    by_cases p4 : p = 4
    · subst p4
      simp at hN
      go_enter Tryz.func114, Tryz.ntmps114
      go_wp2_with fail
      refine (implHasNode W H n _).mono ?_
      rintro e w1 ⟨rfl, hg⟩
      have hb := boxi_blk hg
      have c0 := hb.cell 0
      have c1 := hb.cell 1
      have Hg := Lib.hid (boxi_gb hg)
      clear hg hb
      simp at c0 c1
      rw [hh]
      go_wp2_with fail
      refine (HP.out _).mono ?_
      rintro e w2 ⟨rfl, hg2⟩
      have d0 := hg2.cell c0 (by simp)
      have d1 := hg2.cell c1 (by simp)
      have Hg2 := Lib.hid (gb_trans Hg.out hg2)
      clear hg2 c0 c1
      go_wp2_with fail
      go_ret
      exact ⟨ret_int64 hN.symm, Hg2.out⟩
    simp [p0, p1, p2, p3, p4] at hN
    have q0 : (p == 0) = false := by simpa using p0
    have q1 : (p == 1) = false := by simpa using p1
    have q2 : (p == 2) = false := by simpa using p2
    have q3 : (p == 3) = false := by simpa using p3
    have q4 : (p == 4) = false := by simpa using p4
    clear p0 p1 p2 p3 p4
    go_enter Tryz.func114, Tryz.ntmps114
    go_wp2_with fail
    refine (implHasNode W H n _).mono ?_
    rintro e w1 ⟨rfl, hg⟩
    have hb := boxi_blk hg
    have c0 := hb.cell 0
    have c1 := hb.cell 1
    have Hg := Lib.hid (boxi_gb hg)
    clear hg hb
    simp at c0 c1
    rw [hh]
    go_wp2_with fail
    refine (HP.out _).mono ?_
    rintro e w2 ⟨rfl, hg2⟩
    have d0 := hg2.cell c0 (by simp)
    have d1 := hg2.cell c1 (by simp)
    have Hg2 := Lib.hid (gb_trans Hg.out hg2)
    clear hg2 c0 c1
    go_wp2_with fail
    go_ret
    exact ⟨ret_int64 hN.symm, Hg2.out⟩
  | false =>
    go_enter Tryz.func114, Tryz.ntmps114
    go_wp2_with fail
    refine (implHasNode W H n _).mono ?_
    rintro e w1 ⟨rfl, hg⟩
    rw [hh]
    go_wp2_with fail
    go_ret
    exact ⟨ret_int64 (by simp [nextG, hh]), boxi_gb hg⟩

theorem implNextNodeV (W H n p r : Int) (h : nextG W H n p = r) (w : World) :
    Calls Tryz.prog 114 #[.agg #[.int .i64 W, .int .i64 H], .int .i64 n, .int .i64 p] w (RetI r none w) := h ▸ implNextNode W H n p w

/-- Where a channel leads, by the rounding of the language. -/
def endG (W H c : Int) : Int := nextG W H (c.tdiv 4) (c.tmod 4)
theorem leads_end (W H c : Int) : leadsG W H c = decide (0 ≤ endG W H c) := by
  unfold leadsG endG
  by_cases h0 : 0 ≤ c
  · rw [Int.tdiv_eq_ediv_of_nonneg h0, Int.tmod_eq_emod_of_nonneg h0]
    refine decide_eq_decide.2 ⟨fun h => h.2.2, fun h => ⟨h0, ?_, h⟩⟩
    cases hh : hasG W H (c / 4) with
    | true => have := (hasG_iff.1 hh).2; omega
    | false => simp [nextG, hh] at h
  · refine decide_eq_decide.2 ⟨fun h => absurd h.1 h0, fun h => ?_⟩
    exfalso
    cases hh : hasG W H (c.tdiv 4) with
    | true =>
      have h1 := (hasG_iff.1 hh).1
      have h2 : c.tmod 4 < 0 := by
        have e := Int.mul_tdiv_add_tmod c 4
        omega
      rw [nextG_has (by omega)] at h
      omega
    | false => simp [nextG, hh] at h
theorem implEnd (W H c r : Int) (hc : (Lit.int .i64 c).wf = true) (hr : endG W H c = r) (w : World) :
    Calls Tryz.prog 101 #[.agg #[.int .i64 W, .int .i64 H], .int .i64 c] w (RetI r none w) := by
  have hb := bounds_i64 hc
  have hm : c.tmod 4 < 4 ∧ -4 < c.tmod 4 := ⟨Int.tmod_lt_of_pos _ (by omega), by have := Int.lt_tmod_of_pos c (b := 4) (by omega); omega⟩
  have hq : wrap64 (c.tdiv 4) = c.tdiv 4 := IntWalk.wrap64_in _ (by have := Int.mul_tdiv_add_tmod c 4; omega)
  clear hm
  have HC := Lib.hid (fun w => implNextNodeV W H (c.tdiv 4) (c.tmod 4) r hr w)
  clear hc hr hb
  go_enter Tryz.func101, Tryz.ntmps101
  go_wp2_with fail
  simp only [hq]
  refine (HC.out _).mono ?_
  rintro e w1 ⟨rfl, hg⟩
  have Hg := Lib.hid (boxi_gb hg)
  clear hg
  go_wp2_with fail
  go_ret
  exact ⟨rfl, Hg.out⟩
end Go.Proofs.YtidilfakganooaaGreatDoor
end

section
namespace Go.Proofs.YtidilfakganooaaGreatDoor
open Go.ChangeShapes Go.WideShapes Go.ChangeAt Go.RowKit
set_option linter.unusedVariables false

theorem implMeshOk (W H : Int) (A : Option Addr) (n cap : Nat) (L : List Int) (hL : WfL L) (w : World) (h : IntAt w w.heap.size A n L) (hn : n ≤ 1000000000) :
    Calls Tryz.prog 99 #[.agg #[.int .i64 W, .int .i64 H, .slice A n cap]] w (RetB (meshG W H L) w) := by
  have hl := h.1
  have HI := Lib.hid h
  have HW := Lib.hid hL
  clear h hL
  cases hok : okG W H with
  | false =>
    go_enter Tryz.func99, Tryz.ntmps99
    go_wp2_with fail
    refine (implGridOk W H _).mono ?_
    rintro e w1 ⟨rfl, hg⟩
    rw [hok]
    go_wp2_with fail
    go_ret
    exact ⟨ret_bool (meshG_bad hok).symm, boxi_gb hg⟩
  | true =>
    go_enter Tryz.func99, Tryz.ntmps99
    go_wp2_with fail
    refine (implGridOk W H _).mono ?_
    rintro e w1 ⟨rfl, hg⟩
    have HM := Lib.hid (show MeshAt W H L A n cap w 0 w1 from ⟨goodTo_zero W H L, hg⟩)
    have hbk := boxi_blk hg
    have a2 : w1.cell? ⟨w.heap.size, 2, none⟩ = some (.slice A n cap) := hbk.cell 2
    clear hg hbk
    rw [hok]
    go_wp2_with fail
    clear a2
    go_loopw [12] (fun i wr => ∃ k : Nat, i = .int .i64 (k : Int) ∧ k ≤ n ∧ MeshAt W H L A n cap w k wr) (fun i _ => n - (intOf i).toNat)
    case atStart => exact ⟨0, rfl, Nat.zero_le _, HM.out⟩
    case round =>
      obtain ⟨k, rfl, hk, hgood, hg⟩ := hrel
      have HGo := Lib.hid hgood
      have HG := Lib.hid hg
      have hbk := boxi_blk hg
      have HBK := Lib.hid hbk
      have a0 : wr.cell? ⟨w.heap.size, 0, none⟩ = some (.int .i64 W) := hbk.cell 0
      have a1 : wr.cell? ⟨w.heap.size, 1, none⟩ = some (.int .i64 H) := hbk.cell 1
      have a2 : wr.cell? ⟨w.heap.size, 2, none⟩ = some (.slice A n cap) := hbk.cell 2
      have hia := HI.out.none (Nat.le_refl _) (boxi_gb hg)
      have HIA := Lib.hid hia
      clear hg hgood hbk
      by_cases hlt : k < n
      · obtain ⟨b, off, rfl, hb, hc⟩ := hia.at k hlt
        obtain ⟨x, hx⟩ : ∃ x, L.getD k 0 = x := ⟨_, rfl⟩
        rw [hx] at hc
        obtain ⟨r, hr⟩ : ∃ r, endG W H x = r := ⟨_, rfl⟩
        have HE := Lib.hid (fun w => implEnd W H x r (HW.out.get (by omega) hx) hr w)
        have hld := leads_end W H x
        rw [hr] at hld
        clear hia hr
        by_cases h0 : r < 0
        · have hbad := meshG_no (L := L) (i := k) (by omega) (goodAt_lead hx (by rw [hld]; exact decide_eq_false (by omega)))
          have HBad := Lib.hid hbad
          clear hx hld hbad
          go_wp2_with fail
          refine (HE.out _).mono ?_
          rintro e w2 ⟨rfl, hg2⟩
          have HG2 := Lib.hid (gb_trans (boxi_gb HG.out) hg2)
          clear hg2
          go_wp2_with fail
          go_ret
          exact ⟨ret_bool HBad.out.symm, HG2.out⟩
        · have hldt : leadsG W H x = true := by rw [hld]; exact decide_eq_true (by omega)
          clear hld
          cases k with
          | zero =>
            have HNx := Lib.hid (goodTo_succ HGo.out (goodAt_first hx hldt))
            have hc' : wr.cell? ⟨b, off, none⟩ = some (.int .i64 x) := hc
            clear hx hldt hc
            go_wp2_with fail
            refine (HE.out _).mono ?_
            rintro e w2 ⟨rfl, hg2⟩
            have HG2 := Lib.hid (gb_trans HG.out hg2)
            clear hg2
            go_wp2_with fail
            go_roundw
            case rel => exact ⟨1, by go_num, by omega, HNx.out, HG2.out⟩
            case measure => simp [intOf] <;> omega
          | succ j =>
            obtain ⟨b', off', hbe, _, hc2⟩ := HIA.out.at j (by omega)
            obtain ⟨rfl, rfl⟩ : b = b' ∧ off = off' := by injection hbe with h1; injection h1 with h2 h3; exact ⟨h2, h3⟩
            obtain ⟨y, hy⟩ : ∃ y, L.getD j 0 = y := ⟨_, rfl⟩
            rw [hy] at hc2
            have hga := goodAt_next hx hy hldt
            have HGA := Lib.hid hga
            clear hx hy hldt hga hbe
            go_wp2_with fail
            refine (HE.out _).mono ?_
            rintro e w2 ⟨rfl, hg2⟩
            have dc := hg2.cell hc (by simp)
            have dc2 := hg2.cell hc2 (by simp)
            have d2 := hg2.cell a2 (by simp)
            have HG2 := Lib.hid (gb_trans HG.out hg2)
            clear hg2 hc hc2 a0 a1 a2
            by_cases hyx : y < x
            · have hge : decide (y ≥ x) = false := decide_eq_false (by omega)
              have HNx := Lib.hid (goodTo_succ HGo.out (HGA.out.trans (decide_eq_true hyx)))
              clear hyx
              go_wp2_with fail
              go_roundw
              case rel => exact ⟨j + 2, by go_num, by omega, HNx.out, HG2.out⟩
              case measure => simp [intOf] <;> omega
            · have hge : decide (y ≥ x) = true := decide_eq_true (by omega)
              have HBad := Lib.hid (meshG_no (i := j + 1) (by omega) (HGA.out.trans (decide_eq_false hyx)))
              clear hyx
              go_wp2_with fail
              go_ret
              exact ⟨ret_bool HBad.out.symm, boxi_gb HG2.out⟩
      · obtain rfl : k = n := by omega
        clear hia
        go_wp2_with fail
        go_ret
        exact ⟨ret_bool (meshG_yes hok (by rw [hl]; exact HGo.out)).symm, boxi_gb HG.out⟩

theorem implMeshOkV (W H : Int) (A : Option Addr) (n cap : Nat) (L : List Int) (b : Bool) (hb : meshG W H L = b) (hL : WfL L) (w : World) (h : IntAt w w.heap.size A n L) (hn : n ≤ 1000000000) :
    Calls Tryz.prog 99 #[.agg #[.int .i64 W, .int .i64 H, .slice A n cap]] w (RetB b w) := hb ▸ implMeshOk W H A n cap L hL w h hn
end Go.Proofs.YtidilfakganooaaGreatDoor
end

section
namespace Go.Proofs.YtidilfakganooaaGreatDoor
open Go.ChangeShapes Go.WideShapes Go.ChangeAt Go.RowKit
set_option linter.unusedVariables false

/-- A mesh, a table and a square as blocks. -/
def thrB (W H : Int) (A A2 : Option Addr) (n cap n2 c2 : Nat) (w : World) : World :=
  ((w.alloc (.cells (meshC W H A n cap) 28)).alloc (.cells #[.slice A2 n2 c2] 30)).alloc (.cells (cellsX zerosX) 105)
section
variable {W H : Int} {A A2 : Option Addr} {n cap n2 c2 : Nat} {w wr : World}
theorem thrB_size : (thrB W H A A2 n cap n2 c2 w).heap.size = w.heap.size + 3 := by unfold thrB; rw [alloc_size, alloc_size, alloc_size]
theorem thrB_gb : w.grownBy (thrB W H A A2 n cap n2 c2 w) none := gb_alloc (gb_alloc (gb_alloc (gb_refl _ _) _) _) _
theorem thrB_mesh : Blk (thrB W H A A2 n cap n2 c2 w) w.heap.size 28 (meshC W H A n cap) := ((Blk.new w 28 (meshC W H A n cap)).alloc _).alloc _
theorem thrB_table : Blk (thrB W H A A2 n cap n2 c2 w) (w.heap.size + 1) 30 #[.slice A2 n2 c2] := by
  have := Blk.new (w.alloc (.cells (meshC W H A n cap) 28)) 30 #[.slice A2 n2 c2]
  rw [alloc_size] at this
  exact this.alloc _
theorem thrB_square : Blk (thrB W H A A2 n cap n2 c2 w) (w.heap.size + 2) 105 (cellsX (zerosX)) := by
  have := Blk.new ((w.alloc (.cells (meshC W H A n cap) 28)).alloc (.cells #[.slice A2 n2 c2] 30)) 105 (cellsX zerosX)
  rw [alloc_size, alloc_size] at this
  exact this
end

theorem implPortsNo (W H : Int) (A A2 : Option Addr) (n cap n2 c2 : Nat) (L P : List Int) (hL : WfL L) (w : World) (h : IntAt w w.heap.size A n L) (h2 : IntAt w w.heap.size A2 n2 P) (hn : n ≤ 1000000000) (hn2 : n2 ≤ 1000000000)
    (hs : sizedG W H L P = false) :
    Calls Tryz.prog 70 #[.agg #[.int .i64 W, .int .i64 H, .slice A n cap], .agg #[.slice A2 n2 c2]] w (RetX (zerosX) false w) := by
  have hp := h2.1
  have HI := Lib.hid (h.none (Nat.le_refl _) (thrB_gb (W := W) (H := H) (A := A) (A2 := A2) (n := n) (cap := cap) (n2 := n2) (c2 := c2)))
  clear h h2
  obtain ⟨k, hk⟩ : ∃ k, countG W H = k := ⟨_, rfl⟩
  obtain ⟨hk0, hk1⟩ := countG_le W H
  rw [hk] at hk0 hk1
  have HN := Lib.hid (fun w => show Calls Tryz.prog 71 #[.agg #[.int .i64 W, .int .i64 H]] w (RetI k none w) from hk ▸ implNodeCount W H w)
  have TM := Lib.hid (thrB_mesh (W := W) (H := H) (A := A) (A2 := A2) (n := n) (cap := cap) (n2 := n2) (c2 := c2) (w := w))
  have TT := Lib.hid (thrB_table (W := W) (H := H) (A := A) (A2 := A2) (n := n) (cap := cap) (n2 := n2) (c2 := c2) (w := w))
  have TS := Lib.hid (thrB_square (W := W) (H := H) (A := A) (A2 := A2) (n := n) (cap := cap) (n2 := n2) (c2 := c2) (w := w))
  have TG := Lib.hid (thrB_gb (W := W) (H := H) (A := A) (A2 := A2) (n := n) (cap := cap) (n2 := n2) (c2 := c2) (w := w))
  have TZ := Lib.hid (thrB_size (W := W) (H := H) (A := A) (A2 := A2) (n := n) (cap := cap) (n2 := n2) (c2 := c2) (w := w))
  cases hm : meshG W H L with
  | false =>
    have HK := Lib.hid (fun w h => implMeshOkV W H A n cap L false hm hL w h hn)
    clear hm hL hs hk
    go_enter Tryz.func70, Tryz.ntmps70
    go_wp2_with fail
    refine (HN.out _).mono ?_
    rintro e w1 ⟨rfl, hg⟩
    rw [zero_cells] at hg
    have hg1 : (thrB W H A A2 n cap n2 c2 w).grownBy w1 none := hg
    have hbk := TM.out.grown hg1 (by simp)
    have a0 : w1.cell? ⟨w.heap.size, 0, none⟩ = some (.int .i64 W) := hbk.cell 0
    have a1 : w1.cell? ⟨w.heap.size, 1, none⟩ = some (.int .i64 H) := hbk.cell 1
    have a2 : w1.cell? ⟨w.heap.size, 2, none⟩ = some (.slice A n cap) := hbk.cell 2
    have hi := (HI.out.none (by rw [TZ.out]; omega) hg1).more (B' := w1.heap.size) (gb_trans TG.out hg1).size
    have HG := Lib.hid hg1
    clear hg hg1 hbk
    go_wp2_with fail
    refine (HK.out _ hi).mono ?_
    rintro e w2 ⟨rfl, hg2⟩
    have HG2 := Lib.hid (gb_trans HG.out hg2)
    have HSq := Lib.hid (TS.out.grown HG2.out (by simp))
    clear hg2 hi a0 a1 a2
    go_wp2_with (refine wpList_storeX rfl _ _ rfl (w.heap.size + 1 + 1) zerosX zerosX rfl (congrArg Value.agg zero_cells) HSq.out zerosX_length zerosX_length ?_; intro w3 hb3 hg3; have HB3 := Lib.hid hb3; have HG3 := Lib.hid hg3; clear hb3 hg3)
    refine bodyPost_ret (v := .tuple #[.agg (cellsX zerosX), .bool false]) ?_ rfl ⟨rfl, gb_new (gb_trans TG.out HG2.out) HG3.out (by omega)⟩
    rw [results_cell_tmp rfl]
    simp [asAddr, Result.andThen, load_square HB3.out zerosX_length]
  | true =>
    have hsq : ¬ (n2 : Int) = k * k := fun e => by
      have : sizedG W H L P = true := by simp [sizedG, hm, hk, hp, e]
      rw [hs] at this; cases this
    have hkk0 : 0 ≤ k * k := Int.mul_nonneg hk0 hk0
    have hkk1 : k * k ≤ 256 := Int.le_trans (Int.mul_le_mul hk1 hk1 hk0 (by omega)) (by omega)
    obtain ⟨q, hq⟩ : ∃ q, k * k = q := ⟨_, rfl⟩
    rw [hq] at hkk0 hkk1 hsq
    have e1 : wrap64 (k * k) = q := by rw [hq]; exact IntWalk.wrap64_in _ (by omega)
    have hb : ((n2 : Int) != q) = true := by simpa using hsq
    have HK := Lib.hid (fun w h => implMeshOkV W H A n cap L true hm hL w h hn)
    clear hm hL hs hk hq
    go_enter Tryz.func70, Tryz.ntmps70
    go_wp2_with fail
    refine (HN.out _).mono ?_
    rintro e w1 ⟨rfl, hg⟩
    rw [zero_cells] at hg
    have hg1 : (thrB W H A A2 n cap n2 c2 w).grownBy w1 none := hg
    have hbk := TM.out.grown hg1 (by simp)
    have a0 : w1.cell? ⟨w.heap.size, 0, none⟩ = some (.int .i64 W) := hbk.cell 0
    have a1 : w1.cell? ⟨w.heap.size, 1, none⟩ = some (.int .i64 H) := hbk.cell 1
    have a2 : w1.cell? ⟨w.heap.size, 2, none⟩ = some (.slice A n cap) := hbk.cell 2
    have hi := (HI.out.none (by rw [TZ.out]; omega) hg1).more (B' := w1.heap.size) (gb_trans TG.out hg1).size
    have HG := Lib.hid hg1
    clear hg hg1 hbk
    go_wp2_with fail
    refine (HK.out _ hi).mono ?_
    rintro e w2 ⟨rfl, hg2⟩
    have HG2 := Lib.hid (gb_trans HG.out hg2)
    have HSq := Lib.hid (TS.out.grown HG2.out (by simp))
    have b0 : w2.cell? ⟨w.heap.size + 1, 0, none⟩ = some (.slice A2 n2 c2) := (TT.out.grown HG2.out (by simp)).cell 0
    clear hg2 hi a0 a1 a2
    go_wp2_with (refine wpList_storeX rfl _ _ rfl (w.heap.size + 1 + 1) zerosX zerosX rfl (congrArg Value.agg zero_cells) HSq.out zerosX_length zerosX_length ?_; intro w3 hb3 hg3; have HB3 := Lib.hid hb3; have HG3 := Lib.hid hg3; clear hb3 hg3)
    refine bodyPost_ret (v := .tuple #[.agg (cellsX zerosX), .bool false]) ?_ rfl ⟨rfl, gb_new (gb_trans TG.out HG2.out) HG3.out (by omega)⟩
    rw [results_cell_tmp rfl]
    simp [asAddr, Result.andThen, load_square HB3.out zerosX_length]

/-- The square after j entries, in a block of the call's own. -/
def PortsAt (W H : Int) (A A2 : Option Addr) (n cap n2 c2 : Nat) (P : List Int) (w : World) (g j : Nat) (wr : World) : Prop :=
  Blk wr g 105 (cellsX (portsX W H P j)) ∧ (thrB W H A A2 n cap n2 c2 w).grownBy wr none

theorem implPortsYes (W H : Int) (A A2 : Option Addr) (n cap n2 c2 : Nat) (L P : List Int) (hL : WfL L) (w : World) (h : IntAt w w.heap.size A n L) (h2 : IntAt w w.heap.size A2 n2 P) (hn : n ≤ 1000000000) (hn2 : n2 ≤ 1000000000)
    (hs : sizedG W H L P = true) :
    Calls Tryz.prog 70 #[.agg #[.int .i64 W, .int .i64 H, .slice A n cap], .agg #[.slice A2 n2 c2]] w (RetX (portsX W H P P.length) true w) := by
  have hp := h2.1
  have HI := Lib.hid (h.none (Nat.le_refl _) (thrB_gb (W := W) (H := H) (A := A) (A2 := A2) (n := n) (cap := cap) (n2 := n2) (c2 := c2)))
  have HP := Lib.hid (h2.none (Nat.le_refl _) (thrB_gb (W := W) (H := H) (A := A) (A2 := A2) (n := n) (cap := cap) (n2 := n2) (c2 := c2)))
  clear h h2
  obtain ⟨k, hk⟩ : ∃ k, cntN W H = k := ⟨_, rfl⟩
  have hki := cntN_int W H
  have hk1 := cntN_le W H
  rw [hk] at hki hk1
  have hsz := (sizedG_mesh hs).2
  have hm := (sizedG_mesh hs).1
  rw [hp, ← hki] at hsz
  have HN := Lib.hid (fun w => show Calls Tryz.prog 71 #[.agg #[.int .i64 W, .int .i64 H]] w (RetI (k : Int) none w) from hki ▸ implNodeCount W H w)
  have HK := Lib.hid (fun w h => implMeshOkV W H A n cap L true hm hL w h hn)
  have TM := Lib.hid (thrB_mesh (W := W) (H := H) (A := A) (A2 := A2) (n := n) (cap := cap) (n2 := n2) (c2 := c2) (w := w))
  have TT := Lib.hid (thrB_table (W := W) (H := H) (A := A) (A2 := A2) (n := n) (cap := cap) (n2 := n2) (c2 := c2) (w := w))
  have TS := Lib.hid (thrB_square (W := W) (H := H) (A := A) (A2 := A2) (n := n) (cap := cap) (n2 := n2) (c2 := c2) (w := w))
  have TG := Lib.hid (thrB_gb (W := W) (H := H) (A := A) (A2 := A2) (n := n) (cap := cap) (n2 := n2) (c2 := c2) (w := w))
  have TZ := Lib.hid (thrB_size (W := W) (H := H) (A := A) (A2 := A2) (n := n) (cap := cap) (n2 := n2) (c2 := c2) (w := w))
  have hkk1 : (k : Int) * k ≤ 256 := Int.le_trans (Int.mul_le_mul (Int.ofNat_le.2 hk1) (Int.ofNat_le.2 hk1) (by omega) (by omega)) (by omega)
  have hn256 : n2 ≤ 256 := by omega
  have e1 : wrap64 ((k : Int) * k) = (n2 : Int) := by rw [← hsz]; exact IntWalk.wrap64_in _ (by omega)
  have hb : ((n2 : Int) != (n2 : Int)) = false := by simp
  have HSZ := Lib.hid (show n2 = k * k by exact_mod_cast hsz)
  have HKK := Lib.hid hk
  have HPL := Lib.hid hp
  clear hm hL hs hk hki hsz hkk1 hp
  go_enter Tryz.func70, Tryz.ntmps70
  go_wp2_with fail
  refine (HN.out _).mono ?_
  rintro e w1 ⟨rfl, hg⟩
  rw [zero_cells] at hg
  have hg1 : (thrB W H A A2 n cap n2 c2 w).grownBy w1 none := hg
  have hbk := TM.out.grown hg1 (by simp)
  have a0 : w1.cell? ⟨w.heap.size, 0, none⟩ = some (.int .i64 W) := hbk.cell 0
  have a1 : w1.cell? ⟨w.heap.size, 1, none⟩ = some (.int .i64 H) := hbk.cell 1
  have a2 : w1.cell? ⟨w.heap.size, 2, none⟩ = some (.slice A n cap) := hbk.cell 2
  have hi := (HI.out.none (by rw [TZ.out]; omega) hg1).more (B' := w1.heap.size) (gb_trans TG.out hg1).size
  have HG := Lib.hid hg1
  clear hg hg1 hbk
  go_wp2_with fail
  refine (HK.out _ hi).mono ?_
  rintro e w2 ⟨rfl, hg2⟩
  have HG2 := Lib.hid (gb_trans HG.out hg2)
  have HSq := Lib.hid (TS.out.grown HG2.out (by simp))
  have b0 : w2.cell? ⟨w.heap.size + 1, 0, none⟩ = some (.slice A2 n2 c2) := (TT.out.grown HG2.out (by simp)).cell 0
  have b1 : (w2.alloc (.cells Tryz.zeroCells105 105)).cell? ⟨w.heap.size + 1, 0, none⟩ = some (.slice A2 n2 c2) := ((TT.out.grown HG2.out (by simp)).alloc _).cell 0
  have HB2 := Lib.hid (show w.heap.size + 3 ≤ w2.heap.size by have := HG2.out.size; rw [TZ.out] at this; exact this)
  clear hg2 hi a0 a1 a2
  go_wp2_with fail
  obtain ⟨g, hg⟩ : ∃ g, w2.heap.size = g := ⟨_, rfl⟩
  rw [zero_cells]
  have HX := Lib.hid (show PortsAt W H A A2 n cap n2 c2 P w g 0 (w2.alloc (.cells (cellsX zerosX) 105)) from ⟨hg ▸ Blk.new w2 105 (cellsX zerosX), gb_alloc HG2.out _⟩)
  rw [hg, e1]
  have HGE := Lib.hid (show w.heap.size + 3 ≤ g by rw [← hg]; exact HB2.out)
  clear hg b0 b1 e1 hb
  go_loopw [29] (fun i wr => ∃ j : Nat, i = .int .i64 (j : Int) ∧ j ≤ n2 ∧ PortsAt W H A A2 n cap n2 c2 P w g j wr) (fun i _ => n2 - (intOf i).toNat)
  case atStart => exact ⟨0, rfl, Nat.zero_le _, HX.out⟩
  case round =>
    obtain ⟨j, rfl, hj, hblk, hgr⟩ := hrel
    have HBk := Lib.hid hblk
    have HGr := Lib.hid hgr
    clear hgr hblk
    by_cases hlt : j < n2
    · have hsz := HSZ.out
      have hk0 : 0 < k := Nat.pos_of_ne_zero fun e => by rw [e] at hsz; omega
      obtain ⟨b, off, rfl, hbB, hcell⟩ := (HP.out.none (by rw [TZ.out]; omega) HGr.out).at j hlt
      obtain ⟨p, hpp⟩ : ∃ p, P.getD j 0 = p := ⟨_, rfl⟩
      rw [hpp] at hcell
      obtain ⟨x, hx⟩ : ∃ x, j / k = x := ⟨_, rfl⟩
      obtain ⟨y, hy⟩ : ∃ y, j % k = y := ⟨_, rfl⟩
      have hx1 : x < k := by rw [← hx]; exact Nat.div_lt_of_lt_mul (by rw [← hsz]; exact hlt)
      have hy1 : y < k := by rw [← hy]; exact Nat.mod_lt _ hk0
      have d1 : Int.tdiv (j : Int) (k : Int) = (x : Int) := by rw [← hx]; rfl
      have d2 : Int.tmod (j : Int) (k : Int) = (y : Int) := by rw [← hy]; rfl
      have hx16 : (x : Int) < 16 := by omega
      have hy16 : (y : Int) < 16 := by omega
      obtain ⟨o, ho⟩ : ∃ o, (portsX W H P j).getD (16 * x + y) 0 = o := ⟨_, rfl⟩
      have c1 : wr.cell? ⟨g, x * 16 + y, none⟩ = some (.int .i64 o) := by rw [Nat.mul_comm x 16]; exact (HBk.out.cell (16 * x + y)).trans (cellsX_at (by rw [portsX, sqTo_length]; omega) ho)
      have f1 := HBk.out.frozen (x * 16 + y)
      have hb2 := HBk.out.set_ (x * 16 + y) (.int .i64 (portP p))
      rw [cellsX_set, show (portsX W H P j).set (x * 16 + y) (portP p) = portsX W H P (j + 1) by rw [portsX, portsX, sqTo, HKK.out, hx, hy, hpp, Nat.mul_comm x 16]] at hb2
      have HB2x := Lib.hid hb2
      have HG2x := Lib.hid (gb_setCell HGr.out (p := ⟨g, x * 16 + y, none⟩) (.inr (by rw [TZ.out]; exact HGE.out)) (.int .i64 (portP p)))
      clear hb2 hx hy hpp ho hsz
      by_cases hp0 : p < 0
      · rw [portP_out (.inl hp0)] at HB2x HG2x
        go_wp2_with fail
        go_region
        go_wp2_with fail
        go_roundw
        case rel => exact ⟨j + 1, by go_num, by omega, HB2x.out.drewN 1, gb_drew HG2x.out⟩
        case measure => simp [intOf]; omega
      · by_cases hp4 : 4 < p
        · rw [portP_out (.inr hp4)] at HB2x HG2x
          go_wp2_with fail
          go_region
          go_wp2_with fail
          go_roundw
          case rel => exact ⟨j + 1, by go_num, by omega, HB2x.out.drewN 1, gb_drew HG2x.out⟩
          case measure => simp [intOf]; omega
        · rw [portP_in (by omega) (by omega)] at HB2x HG2x
          go_wp2_with fail
          go_region
          go_wp2_with fail
          go_roundw
          case rel => exact ⟨j + 1, by go_num, by omega, HB2x.out.drewN 1, gb_drew HG2x.out⟩
          case measure => simp [intOf]; omega
    · obtain rfl : j = n2 := by omega
      go_wp2_with (first | (refine wpList_loadX rfl _ rfl g rfl (portsX W H P j) HBk.out (sqTo_length _ _ _) ?_) | (refine wpList_storeX rfl _ _ rfl (w.heap.size + 1 + 1) zerosX (portsX W H P j) rfl rfl ((TS.out.grown HGr.out (by simp))) zerosX_length (sqTo_length _ _ _) ?_; intro w3 hb3 hg3; have HB3 := Lib.hid hb3; have HG3 := Lib.hid hg3; clear hb3 hg3))
      refine bodyPost_ret (v := .tuple #[.agg (cellsX (portsX W H P j)), .bool true]) ?_ rfl ⟨by rw [HPL.out], gb_new (gb_trans TG.out HGr.out) HG3.out (by omega)⟩
      rw [results_cell_tmp rfl]
      simp [asAddr, Result.andThen, load_square HB3.out (sqTo_length _ _ _)]
end Go.Proofs.YtidilfakganooaaGreatDoor
end

section
namespace Go.Proofs.YtidilfakganooaaGreatDoor
open Go.ChangeShapes Go.WideShapes Go.ChangeAt Go.RowKit
set_option linter.unusedVariables false

/-- A mesh and a table as blocks. -/
def twoI (W H : Int) (A A2 : Option Addr) (n cap n2 c2 : Nat) (w : World) : World := (w.alloc (.cells (meshC W H A n cap) 28)).alloc (.cells #[.slice A2 n2 c2] 30)
section
variable {W H : Int} {A A2 : Option Addr} {n cap n2 c2 : Nat} {w wr : World}
theorem twoI_size : (twoI W H A A2 n cap n2 c2 w).heap.size = w.heap.size + 2 := by unfold twoI; rw [alloc_size, alloc_size]
theorem twoI_gb : w.grownBy (twoI W H A A2 n cap n2 c2 w) none := gb_alloc (gb_alloc (gb_refl _ _) _) _
theorem twoI_mesh (h : (twoI W H A A2 n cap n2 c2 w).grownBy wr none) : Blk wr w.heap.size 28 (meshC W H A n cap) := ((Blk.new w 28 (meshC W H A n cap)).alloc _).grown h (by simp)
theorem twoI_table (h : (twoI W H A A2 n cap n2 c2 w).grownBy wr none) : Blk wr (w.heap.size + 1) 30 #[.slice A2 n2 c2] := by
  have := Blk.new (w.alloc (.cells (meshC W H A n cap) 28)) 30 #[.slice A2 n2 c2]
  rw [alloc_size] at this
  exact this.grown h (by simp)
theorem twoI_le (h : (twoI W H A A2 n cap n2 c2 w).grownBy wr none) : w.heap.size + 2 ≤ wr.heap.size := by have := h.size; rw [twoI_size] at this; exact this
theorem twoI_old (h : (twoI W H A A2 n cap n2 c2 w).grownBy wr none) : w.grownBy wr none := gb_trans twoI_gb h
theorem IntAt.twoI {B : Option Addr} {m : Nat} {M : List Int} (h : IntAt w w.heap.size B m M) : IntAt (twoI W H A A2 n cap n2 c2 w) (twoI W H A A2 n cap n2 c2 w).heap.size B m M :=
  (h.none (Nat.le_refl _) twoI_gb).more (by rw [twoI_size]; omega)
theorem IntAt.oldI {B : Option Addr} {m : Nat} {M : List Int} (h : IntAt w w.heap.size B m M) (hg : w.grownBy wr Option.none) : IntAt wr wr.heap.size B m M :=
  (h.none (Nat.le_refl _) hg).more hg.size
end
/-- The new block of a square. -/
theorem new_square (w : World) : Blk (w.alloc (.cells Tryz.zeroCells105 105)) w.heap.size 105 (cellsX zerosX) := by
  rw [← zero_cells]; exact Blk.new w _ _
theorem gb_square {a b c : World} (h : a.grownBy b none) (k : (b.alloc (.cells Tryz.zeroCells105 105)).grownBy c (some b.heap.size)) : a.grownBy c none :=
  gb_new (gb_alloc h _) k h.size
end Go.Proofs.YtidilfakganooaaGreatDoor
end

section
namespace Go.Proofs.YtidilfakganooaaGreatDoor
open Go.ChangeShapes Go.WideShapes Go.ChangeAt Go.RowKit
set_option linter.unusedVariables false

def colPort (x u : Int) : Int := if u < x then 3 else 1
def rowPort (y v : Int) : Int := if v < y then 0 else 2
def mixRule (r b : Int) : Int := if r = 4 then 1 + b % 2 else r
/-- Does the rule take the column first? -/
def firstG (r x y u v : Int) : Bool := if r = 2 then decide (y = v) else if r = 3 then decide (u < x) || decide (y = v) else decide (x ≠ u)
def stdPort (W r a b : Int) : Int :=
  if a = b then 4 else if firstG (mixRule r b) (a % W) (a / W) (b % W) (b / W) then colPort (a % W) (b % W) else rowPort (a / W) (b / W)
def stdTo (W H r : Int) (k : Nat) : List Int := (List.range k).map fun i : Nat => stdPort W r ((i : Int) / countG W H) ((i : Int) % countG W H)
def stdTab (W H r : Int) : List Int := stdTo W H r (sqG W H)
def stdGood (W H r : Int) : Bool := minimalG W H [] (stdTab W H r) && decide ((mostTo W H [] (stdTab W H r) (sqG W H) : Int) = diamG W H)

theorem std_111 : stdGood 1 1 1 = true := by decide +kernel
theorem std_112 : stdGood 1 1 2 = true := by decide +kernel
theorem std_113 : stdGood 1 1 3 = true := by decide +kernel
theorem std_114 : stdGood 1 1 4 = true := by decide +kernel
theorem std_121 : stdGood 1 2 1 = true := by decide +kernel
theorem std_122 : stdGood 1 2 2 = true := by decide +kernel
theorem std_123 : stdGood 1 2 3 = true := by decide +kernel
theorem std_124 : stdGood 1 2 4 = true := by decide +kernel
theorem std_131 : stdGood 1 3 1 = true := by decide +kernel
theorem std_132 : stdGood 1 3 2 = true := by decide +kernel
theorem std_133 : stdGood 1 3 3 = true := by decide +kernel
theorem std_134 : stdGood 1 3 4 = true := by decide +kernel
theorem std_141 : stdGood 1 4 1 = true := by decide +kernel
theorem std_142 : stdGood 1 4 2 = true := by decide +kernel
theorem std_143 : stdGood 1 4 3 = true := by decide +kernel
theorem std_144 : stdGood 1 4 4 = true := by decide +kernel
theorem std_211 : stdGood 2 1 1 = true := by decide +kernel
theorem std_212 : stdGood 2 1 2 = true := by decide +kernel
theorem std_213 : stdGood 2 1 3 = true := by decide +kernel
theorem std_214 : stdGood 2 1 4 = true := by decide +kernel
theorem std_221 : stdGood 2 2 1 = true := by decide +kernel
theorem std_222 : stdGood 2 2 2 = true := by decide +kernel
theorem std_223 : stdGood 2 2 3 = true := by decide +kernel
theorem std_224 : stdGood 2 2 4 = true := by decide +kernel
theorem std_231 : stdGood 2 3 1 = true := by decide +kernel
theorem std_232 : stdGood 2 3 2 = true := by decide +kernel
theorem std_233 : stdGood 2 3 3 = true := by decide +kernel
theorem std_234 : stdGood 2 3 4 = true := by decide +kernel
theorem std_241 : stdGood 2 4 1 = true := by decide +kernel
theorem std_242 : stdGood 2 4 2 = true := by decide +kernel
theorem std_243 : stdGood 2 4 3 = true := by decide +kernel
theorem std_244 : stdGood 2 4 4 = true := by decide +kernel
theorem std_311 : stdGood 3 1 1 = true := by decide +kernel
theorem std_312 : stdGood 3 1 2 = true := by decide +kernel
theorem std_313 : stdGood 3 1 3 = true := by decide +kernel
theorem std_314 : stdGood 3 1 4 = true := by decide +kernel
theorem std_321 : stdGood 3 2 1 = true := by decide +kernel
theorem std_322 : stdGood 3 2 2 = true := by decide +kernel
theorem std_323 : stdGood 3 2 3 = true := by decide +kernel
theorem std_324 : stdGood 3 2 4 = true := by decide +kernel
theorem std_331 : stdGood 3 3 1 = true := by decide +kernel
theorem std_332 : stdGood 3 3 2 = true := by decide +kernel
theorem std_333 : stdGood 3 3 3 = true := by decide +kernel
theorem std_334 : stdGood 3 3 4 = true := by decide +kernel
theorem std_341 : stdGood 3 4 1 = true := by decide +kernel
theorem std_342 : stdGood 3 4 2 = true := by decide +kernel
theorem std_343 : stdGood 3 4 3 = true := by decide +kernel
theorem std_344 : stdGood 3 4 4 = true := by decide +kernel
theorem std_411 : stdGood 4 1 1 = true := by decide +kernel
theorem std_412 : stdGood 4 1 2 = true := by decide +kernel
theorem std_413 : stdGood 4 1 3 = true := by decide +kernel
theorem std_414 : stdGood 4 1 4 = true := by decide +kernel
theorem std_421 : stdGood 4 2 1 = true := by decide +kernel
theorem std_422 : stdGood 4 2 2 = true := by decide +kernel
theorem std_423 : stdGood 4 2 3 = true := by decide +kernel
theorem std_424 : stdGood 4 2 4 = true := by decide +kernel
theorem std_431 : stdGood 4 3 1 = true := by decide +kernel
theorem std_432 : stdGood 4 3 2 = true := by decide +kernel
theorem std_433 : stdGood 4 3 3 = true := by decide +kernel
theorem std_434 : stdGood 4 3 4 = true := by decide +kernel
theorem std_441 : stdGood 4 4 1 = true := by decide +kernel
theorem std_442 : stdGood 4 4 2 = true := by decide +kernel
theorem std_443 : stdGood 4 4 3 = true := by decide +kernel
theorem std_444 : stdGood 4 4 4 = true := by decide +kernel
theorem std_good {W H r : Int} (h : okG W H = true) (h1 : 1 ≤ r) (h4 : r ≤ 4) : stdGood W H r = true := by
  obtain ⟨hW, hH⟩ := okG_cases h
  have hr : r = 1 ∨ r = 2 ∨ r = 3 ∨ r = 4 := by omega
  clear h h1 h4
  rcases hW with rfl | rfl | rfl | rfl
  · rcases hH with rfl | rfl | rfl | rfl
    · rcases hr with rfl | rfl | rfl | rfl
      · exact std_111
      · exact std_112
      · exact std_113
      · exact std_114
    · rcases hr with rfl | rfl | rfl | rfl
      · exact std_121
      · exact std_122
      · exact std_123
      · exact std_124
    · rcases hr with rfl | rfl | rfl | rfl
      · exact std_131
      · exact std_132
      · exact std_133
      · exact std_134
    · rcases hr with rfl | rfl | rfl | rfl
      · exact std_141
      · exact std_142
      · exact std_143
      · exact std_144
  · rcases hH with rfl | rfl | rfl | rfl
    · rcases hr with rfl | rfl | rfl | rfl
      · exact std_211
      · exact std_212
      · exact std_213
      · exact std_214
    · rcases hr with rfl | rfl | rfl | rfl
      · exact std_221
      · exact std_222
      · exact std_223
      · exact std_224
    · rcases hr with rfl | rfl | rfl | rfl
      · exact std_231
      · exact std_232
      · exact std_233
      · exact std_234
    · rcases hr with rfl | rfl | rfl | rfl
      · exact std_241
      · exact std_242
      · exact std_243
      · exact std_244
  · rcases hH with rfl | rfl | rfl | rfl
    · rcases hr with rfl | rfl | rfl | rfl
      · exact std_311
      · exact std_312
      · exact std_313
      · exact std_314
    · rcases hr with rfl | rfl | rfl | rfl
      · exact std_321
      · exact std_322
      · exact std_323
      · exact std_324
    · rcases hr with rfl | rfl | rfl | rfl
      · exact std_331
      · exact std_332
      · exact std_333
      · exact std_334
    · rcases hr with rfl | rfl | rfl | rfl
      · exact std_341
      · exact std_342
      · exact std_343
      · exact std_344
  · rcases hH with rfl | rfl | rfl | rfl
    · rcases hr with rfl | rfl | rfl | rfl
      · exact std_411
      · exact std_412
      · exact std_413
      · exact std_414
    · rcases hr with rfl | rfl | rfl | rfl
      · exact std_421
      · exact std_422
      · exact std_423
      · exact std_424
    · rcases hr with rfl | rfl | rfl | rfl
      · exact std_431
      · exact std_432
      · exact std_433
      · exact std_434
    · rcases hr with rfl | rfl | rfl | rfl
      · exact std_441
      · exact std_442
      · exact std_443
      · exact std_444
theorem std_facts {W H r : Int} (h : okG W H = true) (h1 : 1 ≤ r) (h4 : r ≤ 4) : tableG W H [] (stdTab W H r) = true ∧ minimalG W H [] (stdTab W H r) = true ∧ longG W H [] (stdTab W H r) = diamG W H := by
  have hg := std_good h h1 h4
  simp only [stdGood, Bool.and_eq_true, decide_eq_true_eq] at hg
  have ht : tableG W H [] (stdTab W H r) = true := by have := hg.1; simp only [minimalG, Bool.and_eq_true] at this; exact this.1
  exact ⟨ht, hg.1, by rw [longG, if_pos ht]; exact hg.2⟩
theorem stdTo_succ (W H r : Int) (k : Nat) : stdTo W H r (k + 1) = stdTo W H r k ++ [stdPort W r ((k : Int) / countG W H) ((k : Int) % countG W H)] := by
  simp [stdTo, List.range_succ]
theorem stdTo_len (W H r : Int) (k : Nat) : (stdTo W H r k).length = k := by simp [stdTo]
theorem stdPort_le (W r a b : Int) : 0 ≤ stdPort W r a b ∧ stdPort W r a b ≤ 4 := by
  unfold stdPort colPort rowPort
  repeat' split
  all_goals omega
end Go.Proofs.YtidilfakganooaaGreatDoor
end

section
namespace Go.Proofs.YtidilfakganooaaGreatDoor
open Go.ChangeShapes Go.WideShapes Go.ChangeAt Go.RowKit
set_option linter.unusedVariables false

abbrev Dep := Int × Int
def ltD (a b : Dep) : Bool := decide (a.1 < b.1 ∨ a.1 = b.1 ∧ a.2 < b.2)
theorem ltD_iff {a b : Dep} : ltD a b = true ↔ (a.1 < b.1 ∨ a.1 = b.1 ∧ a.2 < b.2) := by unfold ltD; exact decide_eq_true_iff
theorem ltD_no {a b : Dep} : ltD a b = false ↔ ¬ (a.1 < b.1 ∨ a.1 = b.1 ∧ a.2 < b.2) := by unfold ltD; exact decide_eq_false_iff_not
theorem ltD_irrefl (a : Dep) : ltD a a = false := ltD_no.2 (by omega)
theorem ltD_trans {a b c : Dep} (h : ltD a b = true) (k : ltD b c = true) : ltD a c = true := by
  rw [ltD_iff] at *; omega
theorem ltD_asymm {a b : Dep} (h : ltD a b = true) : ltD b a = false := by
  rw [ltD_iff] at h; rw [ltD_no]; omega
theorem ltD_tri {a b : Dep} (h : ltD a b = false) (k : a ≠ b) : ltD b a = true := by
  rw [ltD_no] at h; rw [ltD_iff]
  have : ¬ (a.1 = b.1 ∧ a.2 = b.2) := fun e => k (Prod.ext e.1 e.2)
  omega
/-- The comparison as a number. -/
def cmpI (x y : Int) : Int := if x < y then -1 else if y < x then 1 else 0
def cmpD (a b : Dep) : Int := if cmpI a.1 b.1 ≠ 0 then cmpI a.1 b.1 else cmpI a.2 b.2
theorem cmpI_zero {x y : Int} : cmpI x y = 0 ↔ x = y := by unfold cmpI; split <;> (try split) <;> omega
theorem cmpI_neg {x y : Int} : cmpI x y < 0 ↔ x < y := by unfold cmpI; split <;> (try split) <;> omega
theorem cmpD_neg {a b : Dep} : cmpD a b < 0 ↔ ltD a b = true := by
  rw [ltD_iff]
  unfold cmpD cmpI
  repeat' split
  all_goals omega
theorem cmpD_zero {a b : Dep} : cmpD a b = 0 ↔ a = b := by
  rw [Prod.ext_iff]
  unfold cmpD cmpI
  repeat' split
  all_goals omega
theorem cmpD_range (a b : Dep) : -1 ≤ cmpD a b ∧ cmpD a b ≤ 1 := by
  unfold cmpD cmpI
  repeat' split
  all_goals omega

def ascD (D : List Dep) : Prop := D.Pairwise (fun a b => ltD a b = true)
instance (D : List Dep) : Decidable (ascD D) := inferInstanceAs (Decidable (List.Pairwise _ _))
def atD (D : List Dep) (k : Nat) : Dep := D.getD k (0, 0)
theorem atD_get {D : List Dep} {k : Nat} (h : k < D.length) : atD D k = D[k] := by
  rw [atD, List.getD_eq_getElem?_getD, List.getElem?_eq_getElem h]; rfl
theorem atD_mem {D : List Dep} {k : Nat} (h : k < D.length) : atD D k ∈ D := by rw [atD_get h]; exact List.getElem_mem h
theorem atD_ex {D : List Dep} {d : Dep} (h : d ∈ D) : ∃ k, k < D.length ∧ atD D k = d := by
  obtain ⟨k, hk, e⟩ := List.getElem_of_mem h
  exact ⟨k, hk, by rw [atD_get hk, e]⟩
theorem asc_at {D : List Dep} (h : ascD D) {i j : Nat} (hij : i < j) (hj : j < D.length) : ltD (atD D i) (atD D j) = true := by
  rw [atD_get (by omega), atD_get hj]
  exact (List.pairwise_iff_getElem.1 h) i j (by omega) hj hij
theorem asc_of {D : List Dep} (h : ∀ i, i + 1 < D.length → ltD (atD D i) (atD D (i + 1)) = true) : ascD D := by
  rw [ascD, List.pairwise_iff_getElem]
  intro i j hi hj hij
  have key : ∀ t, i + t + 1 < D.length → ltD (atD D i) (atD D (i + t + 1)) = true := by
    intro t
    induction t with
    | zero => exact h i
    | succ t ih => exact fun ht => ltD_trans (ih (by omega)) (h (i + t + 1) ht)
  have := key (j - i - 1) (by omega)
  rw [show i + (j - i - 1) + 1 = j by omega, atD_get hi, atD_get hj] at this
  exact this
/-- Strictly ascending lists with the same elements are the same. -/
theorem asc_ext : ∀ (A B : List Dep), ascD A → ascD B → (∀ x, x ∈ A ↔ x ∈ B) → A = B
  | [], [], _, _, _ => rfl
  | [], b :: B, _, _, h => by have := (h b).2 (List.mem_cons_self ..); cases this
  | a :: A, [], _, _, h => by have := (h a).1 (List.mem_cons_self ..); cases this
  | a :: A, b :: B, hA, hB, h => by
    obtain ⟨ha, hA'⟩ := List.pairwise_cons.1 hA
    obtain ⟨hb, hB'⟩ := List.pairwise_cons.1 hB
    have e : a = b := by
      rcases List.mem_cons.1 ((h a).1 (List.mem_cons_self ..)) with e | h1
      · exact e
      · rcases List.mem_cons.1 ((h b).2 (List.mem_cons_self ..)) with e | h2
        · exact e.symm
        · have h3 := hb a h1; have h4 := ltD_asymm (ha b h2); rw [h4] at h3; cases h3
    subst e
    rw [asc_ext A B hA' hB' (fun x => ⟨fun hx => by
      rcases List.mem_cons.1 ((h x).1 (List.mem_cons_of_mem _ hx)) with e | h1
      · have := ha x hx; rw [e, ltD_irrefl] at this; cases this
      · exact h1, fun hx => by
      rcases List.mem_cons.1 ((h x).2 (List.mem_cons_of_mem _ hx)) with e | h1
      · have := hb x hx; rw [e, ltD_irrefl] at this; cases this
      · exact h1⟩)]

/-- How many elements at the head come before d. -/
def lowN (D : List Dep) (d : Dep) : Nat := (D.takeWhile (fun x => ltD x d)).length
theorem lowN_le (D : List Dep) (d : Dep) : lowN D d ≤ D.length := by
  unfold lowN
  exact (List.takeWhile_prefix _).length_le
theorem lowN_of : ∀ {D : List Dep} {d : Dep} {i : Nat}, i ≤ D.length → (∀ t, t < i → ltD (atD D t) d = true) → (i < D.length → ltD (atD D i) d = false) → lowN D d = i
  | [], d, i, hi, _, _ => by simp at hi; subst hi; rfl
  | a :: D, d, 0, hi, h1, h2 => by
    have := h2 (by simp)
    have : ltD a d = false := this
    simp [lowN, this]
  | a :: D, d, i + 1, hi, h1, h2 => by
    have h0 : ltD a d = true := h1 0 (by omega)
    have ih := lowN_of (D := D) (d := d) (i := i) (by simpa using hi) (fun t ht => h1 (t + 1) (by omega)) (fun hlt => h2 (by simpa using hlt))
    unfold lowN at ih ⊢
    simp [h0, ih]
theorem lowN_yes : ∀ {D : List Dep} {d : Dep} {t : Nat}, t < lowN D d → ltD (atD D t) d = true
  | [], d, t, h => by simp [lowN] at h
  | a :: D, d, t, h => by
    unfold lowN at h
    cases ha : ltD a d with
    | false => simp [ha] at h
    | true =>
      simp [ha] at h
      cases t with
      | zero => exact ha
      | succ t => exact lowN_yes (D := D) (d := d) (t := t) (by unfold lowN; omega)
theorem lowN_no : ∀ {D : List Dep} {d : Dep}, lowN D d < D.length → ltD (atD D (lowN D d)) d = false
  | [], d, h => by simp at h
  | a :: D, d, h => by
    cases ha : ltD a d with
    | false =>
      have e : lowN (a :: D) d = 0 := by simp [lowN, ha]
      rw [e]; exact ha
    | true =>
      have e : lowN (a :: D) d = lowN D d + 1 := by simp [lowN, ha]
      rw [e] at h ⊢
      exact lowN_no (D := D) (d := d) (by simpa using h)
theorem lowN_rest {D : List Dep} (hD : ascD D) {d : Dep} {t : Nat} (h : lowN D d ≤ t) (ht : t < D.length) : ltD (atD D t) d = false := by
  have h0 := lowN_no (D := D) (d := d) (by omega)
  by_cases e : lowN D d = t
  · rw [← e]; exact h0
  · have h1 := asc_at hD (show lowN D d < t by omega) ht
    cases h2 : ltD (atD D t) d with
    | false => rfl
    | true => rw [ltD_trans h1 h2] at h0; cases h0

/-- The list with d at its place, unless it is there. -/
def putD (D : List Dep) (d : Dep) : List Dep := D.take (lowN D d) ++ d :: D.drop (lowN D d)
def insD (D : List Dep) (d : Dep) : List Dep := if d ∈ D then D else putD D d
theorem ins_there {D : List Dep} {d : Dep} (h : d ∈ D) : insD D d = D := if_pos h
theorem ins_new {D : List Dep} {d : Dep} (h : d ∉ D) : insD D d = putD D d := if_neg h
/-- In an ascending list, d can stand at its place alone. -/
theorem there_iff {D : List Dep} (hD : ascD D) {d : Dep} : d ∈ D ↔ lowN D d < D.length ∧ atD D (lowN D d) = d := by
  constructor
  · intro h
    obtain ⟨k, hk, e⟩ := atD_ex h
    have h1 : ¬ k < lowN D d := fun h1 => by have := lowN_yes h1; rw [e, ltD_irrefl] at this; cases this
    have h2 : lowN D d = k := by
      rcases Nat.lt_or_eq_of_le (Nat.le_of_not_lt h1) with h2 | h2
      · have h3 := asc_at hD h2 hk
        rw [e] at h3
        have h4 := lowN_no (D := D) (d := d) (by omega)
        rw [h3] at h4; cases h4
      · exact h2
    rw [h2]; exact ⟨hk, e⟩
  · rintro ⟨h, e⟩
    rw [← e]; exact atD_mem h
theorem mem_put {D : List Dep} {d x : Dep} : x ∈ putD D d ↔ x = d ∨ x ∈ D := by
  unfold putD
  rw [List.mem_append, List.mem_cons]
  have : x ∈ D ↔ x ∈ D.take (lowN D d) ∨ x ∈ D.drop (lowN D d) := by rw [← List.mem_append, List.take_append_drop]
  rw [this]
  constructor
  · rintro (h | h | h)
    · exact .inr (.inl h)
    · exact .inl h
    · exact .inr (.inr h)
  · rintro (h | h | h)
    · exact .inr (.inl h)
    · exact .inl h
    · exact .inr (.inr h)
theorem mem_ins {D : List Dep} {d x : Dep} : x ∈ insD D d ↔ x = d ∨ x ∈ D := by
  unfold insD
  split
  · rename_i h
    exact ⟨.inr, fun e => e.elim (fun e => e ▸ h) id⟩
  · exact mem_put
theorem put_length (D : List Dep) (d : Dep) : (putD D d).length = D.length + 1 := by
  have := lowN_le D d
  simp [putD]; omega
theorem ins_length (D : List Dep) (d : Dep) : (insD D d).length ≤ D.length + 1 ∧ D.length ≤ (insD D d).length := by
  unfold insD
  split
  · omega
  · rw [put_length]; omega
theorem ins_asc {D : List Dep} (hD : ascD D) (d : Dep) : ascD (insD D d) := by
  unfold insD
  split
  · exact hD
  · rename_i hn
    have key : ∀ x ∈ D.drop (lowN D d), ltD d x = true := fun x hx => by
      obtain ⟨k, hk, e⟩ := List.getElem_of_mem hx
      have hk' : lowN D d + k < D.length := by simp at hk; omega
      have e' : atD D (lowN D d + k) = x := by rw [atD_get hk', ← e, List.getElem_drop]
      have := lowN_rest hD (d := d) (t := lowN D d + k) (by omega) hk'
      rw [e'] at this
      exact ltD_tri this (fun e2 => hn (by rw [← e2]; exact List.mem_of_mem_drop hx))
    refine List.pairwise_append.2 ⟨hD.sublist (List.take_sublist _ _), List.pairwise_cons.2 ⟨key, hD.sublist (List.drop_sublist _ _)⟩, ?_⟩
    intro a ha b hb
    have had : ltD a d = true := by
      obtain ⟨k, hk, e⟩ := List.getElem_of_mem ha
      have hk' : k < lowN D d := by simp at hk; omega
      have hl := lowN_le D d
      have e' : atD D k = a := by rw [atD_get (by omega), ← e, List.getElem_take]
      have := lowN_yes hk'
      rw [e'] at this; exact this
    rcases List.mem_cons.1 hb with rfl | hb
    · exact had
    · exact ltD_trans had (key b hb)
/-- What a list becomes by inserting others. -/
def insAll (D E : List Dep) : List Dep := E.foldl insD D
theorem insAll_asc {D : List Dep} (hD : ascD D) (E : List Dep) : ascD (insAll D E) := by
  induction E generalizing D with
  | nil => exact hD
  | cons e E ih => exact ih (ins_asc hD e)
theorem mem_insAll {D E : List Dep} {x : Dep} : x ∈ insAll D E ↔ x ∈ D ∨ x ∈ E := by
  induction E generalizing D with
  | nil => simp [insAll]
  | cons e E ih =>
    rw [insAll, List.foldl_cons]
    have := ih (D := insD D e)
    rw [insAll] at this
    rw [this, mem_ins, List.mem_cons]
    constructor
    · rintro ((h | h) | h)
      · exact .inr (.inl h)
      · exact .inl h
      · exact .inr (.inr h)
    · rintro (h | h | h)
      · exact .inl (.inr h)
      · exact .inl (.inl h)
      · exact .inr h
theorem insAll_length (D E : List Dep) : (insAll D E).length ≤ D.length + E.length ∧ D.length ≤ (insAll D E).length := by
  induction E generalizing D with
  | nil => simp [insAll]
  | cons e E ih =>
    have h1 := ih (D := insD D e)
    have h2 := ins_length D e
    rw [insAll] at h1
    rw [insAll, List.foldl_cons, List.length_cons]
    omega
theorem insAll_take {D E : List Dep} {k : Nat} (h : k < E.length) : insAll D (E.take (k + 1)) = insD (insAll D (E.take k)) (atD E k) := by
  rw [atD_get h, List.take_succ_eq_append_getElem h, insAll, List.foldl_append]
  rfl
theorem insAll_append (D E F : List Dep) : insAll D (E ++ F) = insAll (insAll D E) F := List.foldl_append
theorem asc_nil : ascD [] := List.Pairwise.nil

/-- Valid lists, merging, successors, shifting. -/
def inD (d : Dep) : Bool := decide (0 ≤ d.1 ∧ d.1 ≤ 127 ∧ 0 ≤ d.2 ∧ d.2 ≤ 127)
theorem inD_iff {d : Dep} : inD d = true ↔ 0 ≤ d.1 ∧ d.1 ≤ 127 ∧ 0 ≤ d.2 ∧ d.2 ≤ 127 := by unfold inD; exact decide_eq_true_iff
theorem inD_no {d : Dep} : inD d = false ↔ ¬ (0 ≤ d.1 ∧ d.1 ≤ 127 ∧ 0 ≤ d.2 ∧ d.2 ≤ 127) := by unfold inD; exact decide_eq_false_iff_not
/-- The element k is in the range and above the one ahead of it. -/
def stepD (D : List Dep) (k : Nat) : Bool := inD (atD D k) && (decide (k = 0) || ltD (atD D (k - 1)) (atD D k))
def okD (D : List Dep) : Bool := (List.range D.length).all (stepD D)
theorem okD_iff {D : List Dep} : okD D = true ↔ ∀ k, k < D.length → stepD D k = true := by
  unfold okD
  rw [List.all_eq_true]
  exact ⟨fun h k hk => h k (List.mem_range.2 hk), fun h k hk => h k (List.mem_range.1 hk)⟩
theorem okD_not {D : List Dep} {k : Nat} (hk : k < D.length) (h : stepD D k = false) : okD D = false := by
  cases ho : okD D with
  | false => rfl
  | true => rw [okD_iff.1 ho k hk] at h; cases h
theorem okD_asc {D : List Dep} (h : okD D = true) : ascD D := asc_of fun i hi => by
  have := okD_iff.1 h (i + 1) hi
  simp [stepD] at this
  exact this.2
theorem okD_in {D : List Dep} (h : okD D = true) {d : Dep} (hd : d ∈ D) : inD d = true := by
  obtain ⟨k, hk, rfl⟩ := atD_ex hd
  have := okD_iff.1 h k hk
  simp [stepD] at this
  exact this.1
theorem okD_of {D : List Dep} (h : ascD D) (k : ∀ d ∈ D, inD d = true) : okD D = true := okD_iff.2 fun i hi => by
  rw [stepD, k _ (atD_mem hi), Bool.true_and]
  cases i with
  | zero => rfl
  | succ i => rw [show i + 1 - 1 = i from rfl, asc_at h (Nat.lt_succ_self i) hi]; simp
def mergeD (A B : List Dep) : List Dep := if okD A && okD B then insAll A B else []
theorem merge_yes {A B : List Dep} (ha : okD A = true) (hb : okD B = true) : mergeD A B = insAll A B := by simp [mergeD, ha, hb]
theorem merge_no1 {A B : List Dep} (ha : okD A = false) : mergeD A B = [] := by simp [mergeD, ha]
theorem merge_no2 {A B : List Dep} (hb : okD B = false) : mergeD A B = [] := by simp [mergeD, hb]
theorem merge_length (A B : List Dep) : (mergeD A B).length ≤ A.length + B.length := by
  unfold mergeD
  split
  · exact (insAll_length A B).1
  · simp
def succD (D : List Dep) (c : Int) : List Int := (D.filter fun d => decide (d.1 = c)).map (·.2)
theorem succ_length (D : List Dep) (c : Int) : (succD D c).length ≤ D.length := by
  unfold succD
  rw [List.length_map]
  exact List.length_filter_le _ _
theorem succ_yes {D : List Dep} {c : Int} {k : Nat} (hk : k < D.length) (h : (atD D k).1 = c) : succD (D.take (k + 1)) c = succD (D.take k) c ++ [(atD D k).2] := by
  rw [atD_get hk] at h ⊢
  rw [List.take_succ_eq_append_getElem hk, succD, succD, List.filter_append, List.map_append]
  simp [h]
theorem succ_no {D : List Dep} {c : Int} {k : Nat} (hk : k < D.length) (h : ¬ (atD D k).1 = c) : succD (D.take (k + 1)) c = succD (D.take k) c := by
  rw [atD_get hk] at h
  rw [List.take_succ_eq_append_getElem hk, succD, succD, List.filter_append, List.map_append]
  simp [h]
theorem succ_all (D : List Dep) (c : Int) : succD (D.take D.length) c = succD D c := by rw [List.take_length]
theorem mem_succ {D : List Dep} {d : Dep} (h : d ∈ D) : d.2 ∈ succD D d.1 := by
  unfold succD
  exact List.mem_map.2 ⟨d, List.mem_filter.2 ⟨h, by simp⟩, rfl⟩
def moveD (D : List Dep) (by_ : Int) : List Dep := D.map fun d => (d.1 + by_, d.2 + by_)
theorem move_length (D : List Dep) (z : Int) : (moveD D z).length = D.length := List.length_map ..
theorem move_at {D : List Dep} (z : Int) {k : Nat} (h : k < D.length) : atD (moveD D z) k = ((atD D k).1 + z, (atD D k).2 + z) := by
  rw [atD_get (by rw [move_length]; exact h), atD_get h]
  simp [moveD]
theorem move_next {D : List Dep} (z : Int) {k : Nat} (h : k < D.length) : moveD (D.take (k + 1)) z = moveD (D.take k) z ++ [((atD D k).1 + z, (atD D k).2 + z)] := by
  rw [atD_get h, List.take_succ_eq_append_getElem h, moveD, moveD, List.map_append]
  rfl
def inS (z : Int) : Bool := decide (-1000 ≤ z ∧ z ≤ 1000)
def shiftD (D : List Dep) (z : Int) : List Dep := if okD D && inS z && okD (moveD D z) then moveD D z else []
theorem shift_yes {D : List Dep} {z : Int} (h : okD D = true) (hz : inS z = true) (hm : okD (moveD D z) = true) : shiftD D z = moveD D z := by simp [shiftD, h, hz, hm]
theorem shift_no1 {D : List Dep} {z : Int} (h : okD D = false) : shiftD D z = [] := by simp [shiftD, h]
theorem shift_no2 {D : List Dep} {z : Int} (h : inS z = false) : shiftD D z = [] := by simp [shiftD, h]
theorem shift_no3 {D : List Dep} {z : Int} (h : okD (moveD D z) = false) : shiftD D z = [] := by simp [shiftD, h]
theorem shift_length (D : List Dep) (z : Int) : (shiftD D z).length ≤ D.length := by
  unfold shiftD
  split
  · rw [move_length]; exact Nat.le_refl _
  · simp
end Go.Proofs.YtidilfakganooaaGreatDoor
end

section
namespace Go.Proofs.YtidilfakganooaaGreatDoor
open Go.ChangeShapes Go.WideShapes Go.ChangeAt Go.RowKit
set_option linter.unusedVariables false

/-- The node at the end of a channel. -/
def endC (W H c : Int) : Int := nextG W H (c / 4) (c % 4)
/-- Channel i of a route exists and begins where the one before ends. -/
def linkG (W H : Int) (L r : List Int) (i : Nat) : Bool := hasChG W H L (r.getD i 0) && (decide (i = 0) || decide (r.getD i 0 / 4 = endC W H (r.getD (i - 1) 0)))
def routeG (W H : Int) (L r : List Int) : Bool := meshG W H L && decide (0 < r.length) && (List.range r.length).all (linkG W H L r)
/-- The nodes of the first k channels. -/
def nodesTo (W H : Int) (r : List Int) (k : Nat) : List Int := (r.getD 0 0 / 4) :: (r.take k).map (endC W H)
def nodesG (W H : Int) (L r : List Int) : List Int := if routeG W H L r then nodesTo W H r r.length else []
/-- No number of a list is one of those before it, and there is one. -/
def freeAt (N : List Int) (i : Nat) : Bool := !inG (N.take i) (N.getD i 0)
def freeG (N : List Int) : Bool := decide (0 < N.length) && (List.range N.length).all (freeAt N)
def joinG (W H : Int) (L a b : List Int) : List Int := if routeG W H L (a ++ b) then a ++ b else []
/-- The channel between the same nodes in the other direction. -/
def backC (W H c : Int) : Int := 4 * endC W H c + oppG (c % 4)
/-- The channels back, from the last one on: the first k of them. -/
def backTo (W H : Int) (r : List Int) (k : Nat) : List Int := (r.reverse.take k).map (backC W H)
def backOk (W H : Int) (L r : List Int) : Bool := routeG W H L r && r.all fun c => hasChG W H L (backC W H c)
def backG (W H : Int) (L r : List Int) : List Int := if backOk W H L r then r.reverse.map (backC W H) else []

section
variable {W H : Int} {L r : List Int}
def linksTo (W H : Int) (L r : List Int) (k : Nat) : Prop := ∀ j, j < k → linkG W H L r j = true
theorem links_zero : linksTo W H L r 0 := fun _ h => by omega
theorem links_succ {k : Nat} (h : linksTo W H L r k) (hk : linkG W H L r k = true) : linksTo W H L r (k + 1) := fun j hj => by
  rcases Nat.lt_succ_iff_lt_or_eq.1 hj with h1 | rfl
  · exact h j h1
  · exact hk
theorem route_yes (hm : meshG W H L = true) (h0 : 0 < r.length) (h : linksTo W H L r r.length) : routeG W H L r = true := by
  simp only [routeG, hm, Bool.true_and, decide_eq_true h0, List.all_eq_true, List.mem_range]; exact h
theorem route_no {i : Nat} (hi : i < r.length) (h : linkG W H L r i = false) : routeG W H L r = false := by
  cases hr : routeG W H L r with
  | false => rfl
  | true =>
    simp only [routeG, Bool.and_eq_true, List.all_eq_true, List.mem_range] at hr
    have := hr.2 i hi
    rw [h] at this
    cases this
theorem route_mesh (h : meshG W H L = false) : routeG W H L r = false := by simp [routeG, h]
theorem route_nil : routeG W H L [] = false := by simp [routeG]
theorem route_all (h : routeG W H L r = true) : meshG W H L = true ∧ 0 < r.length ∧ linksTo W H L r r.length := by
  simp only [routeG, Bool.and_eq_true, List.all_eq_true, List.mem_range, decide_eq_true_eq] at h
  exact ⟨h.1.1, h.1.2, h.2⟩
theorem route_pos (h : routeG W H L r = true) : 0 < r.length := (route_all h).2.1
theorem link_has {i : Nat} (h : linkG W H L r i = true) : hasChG W H L (r.getD i 0) = true := by simp only [linkG, Bool.and_eq_true] at h; exact h.1
theorem link_lost {i : Nat} {c : Int} (hc : r.getD i 0 = c) (h : hasChG W H L c = false) : linkG W H L r i = false := by unfold linkG; rw [hc, h, Bool.false_and]
theorem link_first {c : Int} (hc : r.getD 0 0 = c) (h : hasChG W H L c = true) : linkG W H L r 0 = true := by simp only [linkG, hc, h, decide_true, Bool.true_or, Bool.and_self]
theorem link_next {i : Nat} {c x : Int} (hc : r.getD (i + 1) 0 = c) (hx : endC W H (r.getD i 0) = x) (h : hasChG W H L c = true) : linkG W H L r (i + 1) = decide (c / 4 = x) := by
  simp only [linkG, Nat.add_sub_cancel, hc, hx, h, Bool.true_and]
  simp
/-- Where the first k channels have led. -/
def atR (W H : Int) (r : List Int) (k : Nat) : Int := if k = 0 then r.getD 0 0 / 4 else endC W H (r.getD (k - 1) 0)
theorem link_at {k : Nat} {c : Int} (hc : r.getD k 0 = c) (h : hasChG W H L c = true) : linkG W H L r k = decide (c / 4 = atR W H r k) := by
  cases k with
  | zero => rw [link_first hc h, atR, if_pos rfl, hc]; simp
  | succ k => rw [link_next hc rfl h, atR, if_neg (by omega), Nat.add_sub_cancel]
theorem atR_succ (k : Nat) : atR W H r (k + 1) = endC W H (r.getD k 0) := by rw [atR, if_neg (by omega), Nat.add_sub_cancel]
theorem route_snoc {k : Nat} {c : Int} (hk : k < r.length) (hc : r.getD k 0 = c) : r.take (k + 1) = r.take k ++ [c] := by
  rw [List.take_add_one, List.getElem?_eq_getElem hk, ← hc, List.getD_eq_getElem?_getD, List.getElem?_eq_getElem hk]; rfl
theorem nodesTo_zero : nodesTo W H r 0 = [r.getD 0 0 / 4] := rfl
theorem nodesTo_succ {k : Nat} {c : Int} (hk : k < r.length) (hc : r.getD k 0 = c) : nodesTo W H r (k + 1) = nodesTo W H r k ++ [endC W H c] := by
  unfold nodesTo
  rw [route_snoc hk hc]
  simp
theorem nodesTo_len {k : Nat} (hk : k ≤ r.length) : (nodesTo W H r k).length = k + 1 := by simp [nodesTo]; omega
theorem nodesTo_last {k : Nat} (hk : k ≤ r.length) : (nodesTo W H r k).getD k 0 = atR W H r k := by
  cases k with
  | zero => rfl
  | succ k =>
    have hl := nodesTo_len (W := W) (H := H) (r := r) (k := k) (by omega)
    rw [nodesTo_succ (c := r.getD k 0) (by omega) rfl, atR_succ, List.getD_eq_getElem?_getD, List.getElem?_append_right (by omega), hl, Nat.sub_self]
    rfl
theorem nodes_yes (h : routeG W H L r = true) : nodesG W H L r = nodesTo W H r r.length := if_pos h
theorem nodes_no (h : routeG W H L r = false) : nodesG W H L r = [] := by simp [nodesG, h]
theorem nodes_len (h : routeG W H L r = true) : (nodesG W H L r).length = r.length + 1 := by rw [nodes_yes h, nodesTo_len (Nat.le_refl _)]
theorem nodes_pos : decide (0 < (nodesG W H L r).length) = routeG W H L r := by
  cases h : routeG W H L r with
  | false => rw [nodes_no h]; rfl
  | true => rw [nodes_len h]; simp
theorem nodes_le : (nodesG W H L r).length ≤ r.length + 1 := by
  cases h : routeG W H L r with
  | false => rw [nodes_no h]; simp
  | true => exact Nat.le_of_eq (nodes_len h)

def freeTo (N : List Int) (k : Nat) : Prop := ∀ j, j < k → freeAt N j = true
theorem free_zero (N : List Int) : freeTo N 0 := fun _ h => by omega
theorem free_succ {N : List Int} {k : Nat} (h : freeTo N k) (hk : freeAt N k = true) : freeTo N (k + 1) := fun j hj => by
  rcases Nat.lt_succ_iff_lt_or_eq.1 hj with h1 | rfl
  · exact h j h1
  · exact hk
theorem free_yes {N : List Int} (h : freeTo N N.length) : freeG N = decide (0 < N.length) := by
  have : (List.range N.length).all (freeAt N) = true := by simp only [List.all_eq_true, List.mem_range]; exact h
  simp [freeG, this]
theorem free_no {N : List Int} {i : Nat} (hi : i < N.length) (h : freeAt N i = false) : freeG N = false := by
  have : (List.range N.length).all (freeAt N) = false := by rw [List.all_eq_false]; exact ⟨i, List.mem_range.2 hi, by rw [h]; decide⟩
  simp [freeG, this]
theorem free_at {N : List Int} {i : Nat} {x : Int} {b : Bool} (hx : N.getD i 0 = x) (h : inG (N.take i) x = b) : freeAt N i = !b := by simp only [freeAt, hx, h]

theorem back_zero : backTo W H r 0 = [] := rfl
theorem rev_at {k : Nat} {c : Int} (hk : k < r.length) (hc : r.getD (r.length - 1 - k) 0 = c) : r.reverse[k]? = some c := by
  rw [List.getElem?_reverse hk, ← hc, List.getD_eq_getElem?_getD, List.getElem?_eq_getElem (by omega)]; rfl
theorem back_succ {k : Nat} {c : Int} (hk : k < r.length) (hc : r.getD (r.length - 1 - k) 0 = c) : backTo W H r (k + 1) = backTo W H r k ++ [backC W H c] := by
  unfold backTo
  rw [List.take_add_one, rev_at hk hc]
  simp
theorem back_len {k : Nat} (hk : k ≤ r.length) : (backTo W H r k).length = k := by simp [backTo]; omega
theorem back_full : backTo W H r r.length = r.reverse.map (backC W H) := by unfold backTo; rw [List.take_of_length_le (by simp)]
/-- The first k channels back exist. -/
def backsTo (W H : Int) (L r : List Int) (k : Nat) : Prop := ∀ j, j < k → hasChG W H L (backC W H (r.getD (r.length - 1 - j) 0)) = true
theorem backs_zero : backsTo W H L r 0 := fun _ h => by omega
theorem backs_succ {k : Nat} {c : Int} (h : backsTo W H L r k) (hc : r.getD (r.length - 1 - k) 0 = c) (hk : hasChG W H L (backC W H c) = true) : backsTo W H L r (k + 1) := fun j hj => by
  rcases Nat.lt_succ_iff_lt_or_eq.1 hj with h1 | rfl
  · exact h j h1
  · rw [hc]; exact hk
theorem backs_all (h : backsTo W H L r r.length) : (r.all fun c => hasChG W H L (backC W H c)) = true := by
  rw [List.all_eq_true]
  intro c hc
  obtain ⟨j, hj, rfl⟩ := List.getElem_of_mem hc
  have := h (r.length - 1 - j) (by omega)
  rw [show r.length - 1 - (r.length - 1 - j) = j by omega, List.getD_eq_getElem?_getD, List.getElem?_eq_getElem hj] at this
  exact this
theorem backOk_yes (hr : routeG W H L r = true) (h : backsTo W H L r r.length) : backOk W H L r = true := by rw [backOk, hr, backs_all h]; rfl
theorem backOk_no {c : Int} {i : Nat} (hi : i < r.length) (hc : r.getD i 0 = c) (h : hasChG W H L (backC W H c) = false) : backOk W H L r = false := by
  have hm : c ∈ r := by rw [← hc, List.getD_eq_getElem?_getD, List.getElem?_eq_getElem hi]; exact List.getElem_mem hi
  cases hb : backOk W H L r with
  | false => rfl
  | true =>
    simp only [backOk, Bool.and_eq_true, List.all_eq_true] at hb
    have := hb.2 c hm
    rw [h] at this
    cases this
theorem backOk_route (h : routeG W H L r = false) : backOk W H L r = false := by simp [backOk, h]
theorem backG_yes (h : backOk W H L r = true) : backG W H L r = backTo W H r r.length := by rw [backG, if_pos h, back_full]
theorem backG_no (h : backOk W H L r = false) : backG W H L r = [] := by simp [backG, h]
theorem backG_le : (backG W H L r).length ≤ r.length := by
  cases h : backOk W H L r with
  | false => rw [backG_no h]; simp
  | true => rw [backG_yes h, back_len (Nat.le_refl _)]; exact Nat.le_refl _
theorem joinG_yes {a b : List Int} (h : routeG W H L (a ++ b) = true) : joinG W H L a b = a ++ b := if_pos h
theorem joinG_no {a b : List Int} (h : routeG W H L (a ++ b) = false) : joinG W H L a b = [] := by simp [joinG, h]
theorem joinG_le {a b : List Int} : (joinG W H L a b).length ≤ a.length + b.length := by
  unfold joinG
  split
  · simp
  · simp
theorem endC_le (W H c : Int) : -1 ≤ endC W H c ∧ endC W H c ≤ 15 := nextG_le _ _ _ _
theorem oppG_le (p : Int) : -1 ≤ oppG p ∧ oppG p ≤ 4 := by
  unfold oppG
  repeat' split
  all_goals omega
theorem backC_le (W H c : Int) : -5 ≤ backC W H c ∧ backC W H c ≤ 64 := by
  have h1 := endC_le W H c
  have h2 := oppG_le (c % 4)
  unfold backC; omega
theorem has_leads {c : Int} (h : hasChG W H L c = true) : 0 ≤ c ∧ c < 4 * countG W H ∧ 0 ≤ endC W H c := by
  simp only [hasChG, Bool.and_eq_true, leadsG, decide_eq_true_eq] at h
  exact h.1
theorem has_ok {c : Int} (h : hasChG W H L c = true) : okG W H = true := by
  have h1 := (has_leads h).2.2
  unfold endC nextG at h1
  split at h1
  · rename_i hh; exact (hasG_ok hh).1
  · omega
/-- The nodes of the first k channels, the first node being z. -/
def nodesZ (W H : Int) (r : List Int) (z : Int) (k : Nat) : List Int := z :: (r.take k).map (endC W H)
def atZ (W H : Int) (r : List Int) (z : Int) (k : Nat) : Int := if k = 0 then z else endC W H (r.getD (k - 1) 0)
theorem nodesZ_zero (z : Int) : nodesZ W H r z 0 = [z] := rfl
theorem nodesZ_succ {z : Int} {k : Nat} {c : Int} (hk : k < r.length) (hc : r.getD k 0 = c) : nodesZ W H r z (k + 1) = nodesZ W H r z k ++ [endC W H c] := by
  unfold nodesZ
  rw [route_snoc hk hc]
  simp
theorem nodesZ_len {z : Int} {k : Nat} (hk : k ≤ r.length) : (nodesZ W H r z k).length = k + 1 := by simp [nodesZ]; omega
theorem atZ_succ (z : Int) {k : Nat} {c y : Int} (hc : r.getD k 0 = c) (hy : endC W H c = y) : atZ W H r z (k + 1) = y := by rw [atZ, if_neg (by omega), Nat.add_sub_cancel, hc, hy]
theorem link_z {z : Int} {k : Nat} {c : Int} (hz : 0 ≤ r.getD 0 0 → z = r.getD 0 0 / 4) (hc : r.getD k 0 = c) (h : hasChG W H L c = true) (h0 : 0 ≤ c) : linkG W H L r k = decide (c / 4 = atZ W H r z k) := by
  rw [link_at hc h]
  cases k with
  | zero => rw [atR, atZ, if_pos rfl, if_pos rfl, hz (by rw [hc]; exact h0)]
  | succ k => rw [atR, atZ, if_neg (by omega), if_neg (by omega)]
theorem nodes_z {z : Int} (hz : 0 ≤ r.getD 0 0 → z = r.getD 0 0 / 4) (hm : meshG W H L = true) (h0 : 0 < r.length) (h : linksTo W H L r r.length) : nodesG W H L r = nodesZ W H r z r.length := by
  have hl := (has_leads (link_has (h 0 h0))).1
  rw [nodes_yes (route_yes hm h0 h), nodesTo, nodesZ, hz hl]
end
end Go.Proofs.YtidilfakganooaaGreatDoor
end

section
namespace Go.Proofs.YtidilfakganooaaGreatDoor
open Go.ChangeShapes Go.WideShapes Go.ChangeAt Go.RowKit
set_option linter.unusedVariables false

theorem place_at {W H x y : Int} (hok : okG W H = true) (hx0 : 0 ≤ x) (hx1 : x < W) (hy0 : 0 ≤ y) (hy1 : y < H) :
    hasG W H (y * W + x) = true ∧ (y * W + x) % W = x ∧ (y * W + x) / W = y := by
  obtain ⟨hW, hH⟩ := okG_cases hok
  have hc : countG W H = W * H := by simp [countG, hok]
  rw [hasG_iff, hc]
  rcases hW with rfl | rfl | rfl | rfl <;> rcases hH with rfl | rfl | rfl | rfl <;> omega
theorem atG_of {W H x y : Int} (h : 0 ≤ atG W H x y) : okG W H = true ∧ 0 ≤ x ∧ x < W ∧ 0 ≤ y ∧ y < H ∧ atG W H x y = y * W + x := by
  unfold atG at h ⊢
  split at h
  · rename_i hc
    exact ⟨hc.1, hc.2.1, hc.2.2.1, hc.2.2.2.1, hc.2.2.2.2, by rw [if_pos hc]⟩
  · omega
theorem atG_in {W H x y : Int} (hok : okG W H = true) (hx0 : 0 ≤ x) (hx1 : x < W) (hy0 : 0 ≤ y) (hy1 : y < H) : atG W H x y = y * W + x := by
  unfold atG
  rw [if_pos ⟨hok, hx0, hx1, hy0, hy1⟩]
theorem next0 {W H n : Int} (h : hasG W H n = true) : nextG W H n 0 = atG W H (n % W) (n / W - 1) := by simp [nextG, h]
theorem next1 {W H n : Int} (h : hasG W H n = true) : nextG W H n 1 = atG W H (n % W + 1) (n / W) := by simp [nextG, h]
theorem next2 {W H n : Int} (h : hasG W H n = true) : nextG W H n 2 = atG W H (n % W) (n / W + 1) := by simp [nextG, h]
theorem next3 {W H n : Int} (h : hasG W H n = true) : nextG W H n 3 = atG W H (n % W - 1) (n / W) := by simp [nextG, h]
theorem next4 {W H n : Int} (h : hasG W H n = true) : nextG W H n 4 = n := by simp [nextG, h]

/-- One step to (dx, dy), and back. -/
theorem step_back {W H a b dx dy : Int} (ha : hasG W H a = true) (hb : atG W H (a % W + dx) (a / W + dy) = b) (h0 : 0 ≤ b) (hd : absI dx + absI dy = 1) :
    hasG W H b = true ∧ b % W = a % W + dx ∧ b / W = a / W + dy ∧ distG W H a b = 1 ∧ atG W H (b % W - dx) (b / W - dy) = a := by
  obtain ⟨hok, x0, x1, y0, y1, he⟩ := atG_of (by rw [hb]; exact h0)
  obtain ⟨p1, p2, p3⟩ := place_at hok x0 x1 y0 y1
  have hbe : b = (a / W + dy) * W + (a % W + dx) := by rw [← hb]; exact he
  rw [← hbe] at p1 p2 p3
  obtain ⟨q0, q1, q2, q3, q4⟩ := place_of ha
  refine ⟨p1, p2, p3, ?_, ?_⟩
  · rw [distG_ok ha p1, p2, p3, show a % W - (a % W + dx) = -dx by omega, show a / W - (a / W + dy) = -dy by omega, absI_neg, absI_neg]
    exact hd
  · rw [p2, p3, show a % W + dx - dx = a % W by omega, show a / W + dy - dy = a / W by omega, atG_in hok q0 q1 q2 q3, q4]

/-- What the law on neighbors asks of one port. -/
theorem neigh_fact {W H a q : Int} (ha : hasG W H a = true) (h0 : 0 ≤ q) (h1 : q ≤ 3) :
    ∃ b o : Int, nextG W H a q = b ∧ oppG q = o ∧ 0 ≤ o ∧ o ≤ 3 ∧ o ≠ q ∧ oppG o = q ∧ (0 ≤ b → nextG W H b o = a ∧ distG W H a b = 1) ∧ -1 ≤ b ∧ b ≤ 15 := by
  have hle := nextG_le W H a q
  have hq : q = 0 ∨ q = 1 ∨ q = 2 ∨ q = 3 := by omega
  rcases hq with rfl | rfl | rfl | rfl
  · refine ⟨_, 2, rfl, by decide, by omega, by omega, by omega, by decide, fun hb => ?_, hle⟩
    have hn := next0 ha
    obtain ⟨k1, k2, k3, k4, k5⟩ := step_back (dx := 0) (dy := -1) ha (b := nextG W H a 0) (by rw [hn, show a % W + 0 = a % W by omega, show a / W + -1 = a / W - 1 by omega]) hb (by decide)
    refine ⟨?_, k4⟩
    rw [next2 k1]
    rwa [show nextG W H a 0 % W - 0 = nextG W H a 0 % W by omega, show nextG W H a 0 / W - -1 = nextG W H a 0 / W + 1 by omega] at k5
  · refine ⟨_, 3, rfl, by decide, by omega, by omega, by omega, by decide, fun hb => ?_, hle⟩
    have hn := next1 ha
    obtain ⟨k1, k2, k3, k4, k5⟩ := step_back (dx := 1) (dy := 0) ha (b := nextG W H a 1) (by rw [hn, show a / W + 0 = a / W by omega]) hb (by decide)
    refine ⟨?_, k4⟩
    rw [next3 k1]
    rwa [show nextG W H a 1 / W - 0 = nextG W H a 1 / W by omega] at k5
  · refine ⟨_, 0, rfl, by decide, by omega, by omega, by omega, by decide, fun hb => ?_, hle⟩
    have hn := next2 ha
    obtain ⟨k1, k2, k3, k4, k5⟩ := step_back (dx := 0) (dy := 1) ha (b := nextG W H a 2) (by rw [hn, show a % W + 0 = a % W by omega]) hb (by decide)
    refine ⟨?_, k4⟩
    rw [next0 k1]
    rwa [show nextG W H a 2 % W - 0 = nextG W H a 2 % W by omega] at k5
  · refine ⟨_, 1, rfl, by decide, by omega, by omega, by omega, by decide, fun hb => ?_, hle⟩
    have hn := next3 ha
    obtain ⟨k1, k2, k3, k4, k5⟩ := step_back (dx := -1) (dy := 0) ha (b := nextG W H a 3) (by rw [hn, show a / W + 0 = a / W by omega, show a % W + -1 = a % W - 1 by omega]) hb (by decide)
    refine ⟨?_, k4⟩
    rw [next1 k1]
    rwa [show nextG W H a 3 / W - 0 = nextG W H a 3 / W by omega, show nextG W H a 3 % W - -1 = nextG W H a 3 % W + 1 by omega] at k5
end Go.Proofs.YtidilfakganooaaGreatDoor
end

section
namespace Go.Proofs.YtidilfakganooaaGreatDoor
open Go.ChangeShapes Go.WideShapes Go.ChangeAt Go.RowKit
set_option linter.unusedVariables false

section
variable {W H : Int} {L r : List Int}
/-- The channel back of a channel that leads somewhere. -/
theorem back_lead {c : Int} (h0 : 0 ≤ c) (h1 : c < 4 * countG W H) (h2 : 0 ≤ endC W H c) : leadsG W H (backC W H c) = true ∧ backC W H c / 4 = endC W H c ∧ endC W H (backC W H c) = c / 4 ∧ backC W H (backC W H c) = c := by
  have ha : hasG W H (c / 4) = true := hasG_iff.2 ⟨by omega, by omega⟩
  obtain ⟨b, o, hb, ho, o0, o3, _, hoo, hbk, _⟩ := neigh_fact (q := c % 4) ha (by omega) (by omega)
  have he : endC W H c = b := hb
  have hbb : backC W H c = 4 * b + o := by rw [backC, he, ho]
  rw [he] at h2 ⊢
  have h4 : (4 * b + o) / 4 = b := by omega
  have h5 : (4 * b + o) % 4 = o := by omega
  have h6 : endC W H (4 * b + o) = c / 4 := by rw [endC, h4, h5]; exact (hbk h2).1
  have hh := (hasG_iff.1 (next_has (W := W) (H := H) (n := c / 4) (p := c % 4) (by rw [hb]; exact h2))).2
  rw [hb] at hh
  rw [hbb]
  refine ⟨?_, h4, h6, ?_⟩
  · have h7 : 0 ≤ nextG W H ((4 * b + o) / 4) ((4 * b + o) % 4) := by show 0 ≤ endC W H (4 * b + o); rw [h6]; omega
    simp only [leadsG, decide_eq_true_eq]
    exact ⟨by omega, by omega, h7⟩
  · rw [backC, h6, h5, hoo]; omega
theorem back_has {c : Int} (h : hasChG W H L c = true) : leadsG W H (backC W H c) = true ∧ backC W H c / 4 = endC W H c ∧ endC W H (backC W H c) = c / 4 ∧ backC W H (backC W H c) = c := by
  obtain ⟨h0, h1, h2⟩ := has_leads h
  exact back_lead h0 h1 h2
theorem route_at (h : routeG W H L r = true) {j : Nat} (hj : j < r.length) : hasChG W H L (r.getD j 0) = true ∧ r.getD j 0 / 4 = atR W H r j := by
  have hl := (route_all h).2.2 j hj
  have hh := link_has hl
  refine ⟨hh, ?_⟩
  rw [link_at rfl hh] at hl
  exact of_decide_eq_true hl
theorem nodes_at (h : routeG W H L r = true) {j : Nat} (hj : j ≤ r.length) : (nodesG W H L r).getD j 0 = atR W H r j := by
  rw [nodes_yes h, nodesTo, List.take_of_length_le (Nat.le_refl _)]
  cases j with
  | zero => rfl
  | succ j => rw [atR_succ, List.getD_cons_succ, List.getD_eq_getElem?_getD, List.getElem?_map, List.getD_eq_getElem?_getD, List.getElem?_eq_getElem (by omega)]; rfl
theorem rev_get (hn : 0 < r.length) {j : Nat} (hj : j < r.length) : (r.reverse.map (backC W H)).getD j 0 = backC W H (r.getD (r.length - 1 - j) 0) := by
  rw [List.getD_eq_getElem?_getD, List.getElem?_map, List.getElem?_reverse hj, List.getD_eq_getElem?_getD, List.getElem?_eq_getElem (by omega)]; rfl
theorem backOk_all (h : backOk W H L r = true) : routeG W H L r = true ∧ ∀ j, j < r.length → hasChG W H L (backC W H (r.getD j 0)) = true := by
  simp only [backOk, Bool.and_eq_true, List.all_eq_true] at h
  refine ⟨h.1, fun j hj => h.2 _ ?_⟩
  rw [List.getD_eq_getElem?_getD, List.getElem?_eq_getElem hj]
  exact List.getElem_mem hj
/-- The route back. -/
theorem back_route (h : backOk W H L r = true) : routeG W H L (backG W H L r) = true ∧ (backG W H L r).length = r.length ∧
    (∀ j, j < r.length → (backG W H L r).getD j 0 = backC W H (r.getD (r.length - 1 - j) 0)) ∧ ∀ j, j ≤ r.length → atR W H (backG W H L r) j = atR W H r (r.length - j) := by
  obtain ⟨hr, hb⟩ := backOk_all h
  have hn := route_pos hr
  have hB : backG W H L r = r.reverse.map (backC W H) := if_pos h
  have hlen : (backG W H L r).length = r.length := by rw [hB]; simp
  have hg : ∀ j, j < r.length → (backG W H L r).getD j 0 = backC W H (r.getD (r.length - 1 - j) 0) := fun j hj => by rw [hB]; exact rev_get hn hj
  have hat : ∀ j, j ≤ r.length → atR W H (backG W H L r) j = atR W H r (r.length - j) := fun j hj => by
    cases j with
    | zero =>
      rw [atR, if_pos rfl, hg 0 hn, (back_has (route_at hr (j := r.length - 1 - 0) (by omega)).1).2.1, atR, if_neg (by omega)]
      congr 2
    | succ j =>
      obtain ⟨q1, q2⟩ := route_at hr (j := r.length - 1 - j) (by omega)
      rw [atR_succ, hg j (by omega), (back_has q1).2.2.1, q2]
      congr 1
      omega
  refine ⟨route_yes (route_all hr).1 (by omega) (fun j hj => ?_), hlen, hg, hat⟩
  rw [hlen] at hj
  have q1 := (route_at hr (j := r.length - 1 - j) (by omega)).1
  rw [link_at (hg j hj) (hb _ (by omega)), hat j (by omega), (back_has q1).2.1, atR, if_neg (by omega)]
  refine decide_eq_true ?_
  congr 2
  omega
theorem back_back (h : backOk W H L r = true) : backOk W H L (backG W H L r) = true ∧ backG W H L (backG W H L r) = r := by
  obtain ⟨hr, hb⟩ := backOk_all h
  obtain ⟨h1, h2, h3, h4⟩ := back_route h
  have hall : backsTo W H L (backG W H L r) (backG W H L r).length := fun j hj => by
    rw [h2] at hj
    rw [h2, h3 _ (by omega)]
    have q1 := (route_at hr (j := r.length - 1 - (r.length - 1 - j)) (by omega)).1
    rw [(back_has q1).2.2.2]
    exact q1
  have hk := backOk_yes h1 hall
  refine ⟨hk, ?_⟩
  obtain ⟨_, g2, g3, _⟩ := back_route hk
  refine List.ext_getElem (by rw [g2, h2]) fun i i1 i2 => ?_
  have e1 := g3 i (by rw [h2]; omega)
  rw [h2, h3 _ (by omega)] at e1
  have q1 := (route_at hr (j := r.length - 1 - (r.length - 1 - i)) (by omega)).1
  rw [(back_has q1).2.2.2] at e1
  rw [List.getD_eq_getElem?_getD, List.getD_eq_getElem?_getD, List.getElem?_eq_getElem (by omega), List.getElem?_eq_getElem (by omega)] at e1
  simp only [Option.getD_some] at e1
  rw [e1]
  congr 1
  omega
theorem back_round (h : backOk W H L r = true) : routeG W H L (r ++ backG W H L r) = true := by
  obtain ⟨hr, hb⟩ := backOk_all h
  obtain ⟨h1, h2, h3, h4⟩ := back_route h
  have ga : ∀ j, j < r.length → (r ++ backG W H L r).getD j 0 = r.getD j 0 := fun j hj => by
    rw [List.getD_eq_getElem?_getD, List.getD_eq_getElem?_getD, List.getElem?_append_left hj]
  have gb : ∀ j, (r ++ backG W H L r).getD (r.length + j) 0 = (backG W H L r).getD j 0 := fun j => by
    rw [List.getD_eq_getElem?_getD, List.getD_eq_getElem?_getD, List.getElem?_append_right (by omega), Nat.add_sub_cancel_left]
  refine route_yes (route_all hr).1 (by rw [List.length_append]; have := route_pos hr; omega) (fun i hi => ?_)
  rw [List.length_append, h2] at hi
  have hn := route_pos hr
  rcases Nat.lt_or_ge i r.length with hlt | hge
  · obtain ⟨q1, q2⟩ := route_at hr hlt
    rw [link_at (ga i hlt) q1, q2]
    refine decide_eq_true ?_
    cases i with
    | zero => rw [atR, atR, if_pos rfl, if_pos rfl, ga 0 hn]
    | succ i => rw [atR_succ, atR_succ, ga i (by omega)]
  · obtain ⟨j, rfl⟩ : ∃ j, i = r.length + j := ⟨i - r.length, by omega⟩
    obtain ⟨q1, q2⟩ := route_at h1 (j := j) (by omega)
    rw [link_at (gb j) q1, q2]
    refine decide_eq_true ?_
    rw [h4 j (by omega)]
    cases j with
    | zero =>
      have : r.length - 0 = r.length := by omega
      rw [this]
      obtain ⟨m, hm⟩ : ∃ m, r.length = m + 1 := ⟨r.length - 1, by omega⟩
      rw [Nat.add_zero, hm, atR_succ, atR_succ, ga m (by omega)]
    | succ j =>
      rw [show r.length + (j + 1) = (r.length + j) + 1 by omega, atR_succ, gb j, ← atR_succ, h4 (j + 1) (by omega)]
/-- Without broken channels every route can be turned back. -/
theorem back_free (h : routeG W H [] r = true) : backOk W H [] r = true := by
  refine backOk_yes h (fun j hj => ?_)
  have q1 := (route_at h (j := r.length - 1 - j) (by omega)).1
  simp only [hasChG, (back_has q1).1, inG]
  rfl

/-- A list grows by a channel that begins where it has led. -/
theorem links_push {c : Int} (h : linksTo W H L r r.length) (hc : hasChG W H L c = true) (hx : 0 < r.length → c / 4 = atR W H r r.length) :
    linksTo W H L (r ++ [c]) (r ++ [c]).length ∧ atR W H (r ++ [c]) (r ++ [c]).length = endC W H c := by
  have ga : ∀ j, j < r.length → (r ++ [c]).getD j 0 = r.getD j 0 := fun j hj => by
    rw [List.getD_eq_getElem?_getD, List.getD_eq_getElem?_getD, List.getElem?_append_left hj]
  have gc : (r ++ [c]).getD r.length 0 = c := by
    rw [List.getD_eq_getElem?_getD, List.getElem?_append_right (Nat.le_refl _), Nat.sub_self]; rfl
  have hl : (r ++ [c]).length = r.length + 1 := by simp
  refine ⟨?_, by rw [hl, atR_succ, gc]⟩
  rw [hl]
  refine links_succ (fun j hj => ?_) ?_
  · have := h j hj
    cases j with
    | zero => rw [linkG, ga 0 hj]; rw [linkG] at this; simpa using this
    | succ j => rw [linkG, ga _ hj, Nat.add_sub_cancel, ga j (by omega)]; rw [linkG, Nat.add_sub_cancel] at this; exact this
  · rw [link_at gc hc]
    refine decide_eq_true ?_
    rcases Nat.eq_zero_or_pos r.length with h0 | h0
    · rw [h0, atR, if_pos rfl]
      rw [h0] at gc
      rw [gc]
    · rw [hx h0]
      obtain ⟨m, hm⟩ : ∃ m, r.length = m + 1 := ⟨r.length - 1, by omega⟩
      rw [hm, atR_succ, atR_succ, ga m (by omega)]

variable {P : List Int}
/-- A walk of a table, channel by channel. -/
theorem walk_cases {z a : Int} {f : Nat} {l : List Int} (h : walkF W H L P z (f + 1) a = some l) :
    (l = [] ∧ a = z) ∨ ∃ c t, l = c :: t ∧ c = 4 * a + tabG (countG W H) P a z ∧ hasChG W H L c = true ∧ c / 4 = a ∧ c % 4 = tabG (countG W H) P a z ∧ walkF W H L P z f (endC W H c) = some t := by
  rw [walkF] at h
  split at h
  · split at h
    · rename_i e
      cases h
      exact .inl ⟨rfl, e⟩
    · cases h
  · split at h
    · rename_i h4 hs
      rw [Option.map_eq_some_iff] at h
      obtain ⟨t, ht, rfl⟩ := h
      obtain ⟨p0, p3, hc⟩ := steps_next hs
      have e1 : (4 * a + tabG (countG W H) P a z) / 4 = a := by omega
      have e2 : (4 * a + tabG (countG W H) P a z) % 4 = tabG (countG W H) P a z := by omega
      exact .inr ⟨_, t, rfl, rfl, hc, e1, e2, by rw [endC, e1, e2]; exact ht⟩
    · cases h
theorem walk_det {z : Int} : ∀ (f g : Nat) (a : Int) (l m : List Int), walkF W H L P z f a = some l → walkF W H L P z g a = some m → l = m
  | 0, _, _, _, _, h, _ => by simp [walkF] at h
  | _ + 1, 0, _, _, _, _, h => by simp [walkF] at h
  | f + 1, g + 1, a, l, m, h1, h2 => by
    rw [walkF] at h1 h2
    split at h1
    · rename_i h4
      rw [if_pos h4] at h2
      split at h1
      · rename_i e
        rw [if_pos e] at h2
        cases h1; cases h2; rfl
      · cases h1
    · rename_i h4
      rw [if_neg h4] at h2
      split at h1
      · rename_i hs
        rw [if_pos hs] at h2
        rw [Option.map_eq_some_iff] at h1 h2
        obtain ⟨t, ht, rfl⟩ := h1
        obtain ⟨u, hu, rfl⟩ := h2
        rw [walk_det f g _ t u ht hu]
      · cases h1
/-- What lies behind the first j channels of a walk is the walk from where they lead. -/
theorem walk_drop {z : Int} : ∀ (f : Nat) (a : Int) (l : List Int), walkF W H L P z f a = some l → ∀ j, j ≤ l.length →
    ∃ g, walkF W H L P z g (if j = 0 then a else endC W H (l.getD (j - 1) 0)) = some (l.drop j)
  | 0, _, _, h, _, _ => by simp [walkF] at h
  | f + 1, a, l, h, 0, _ => ⟨f + 1, by rw [if_pos rfl]; exact h⟩
  | f + 1, a, l, h, j + 1, hj => by
    rcases walk_cases h with ⟨rfl, _⟩ | ⟨c, t, rfl, _, _, _, _, ht⟩
    · simp at hj
    · obtain ⟨g, hg⟩ := walk_drop f _ t ht j (by simpa using hj)
      refine ⟨g, ?_⟩
      rw [if_neg (by omega), Nat.add_sub_cancel, List.drop_succ_cons]
      cases j with
      | zero => rw [if_pos rfl] at hg; exact hg
      | succ j => rw [if_neg (by omega), Nat.add_sub_cancel] at hg; rw [List.getD_cons_succ]; exact hg
theorem walk_links {z : Int} : ∀ (f : Nat) (a : Int) (l : List Int), walkF W H L P z f a = some l → linksTo W H L l l.length ∧ (0 < l.length → l.getD 0 0 / 4 = a ∧ l.getD 0 0 % 4 = tabG (countG W H) P a z ∧ atR W H l l.length = z) ∧ (l = [] → a = z)
  | 0, _, _, h => by simp [walkF] at h
  | f + 1, a, l, h => by
    rcases walk_cases h with ⟨rfl, e⟩ | ⟨c, t, rfl, hc, hh, h4, h5, ht⟩
    · exact ⟨links_zero, fun h => absurd h (by simp), fun _ => e⟩
    · obtain ⟨h1, h2, h3⟩ := walk_links f _ t ht
      refine ⟨fun j hj => ?_, fun _ => ⟨h4, h5, ?_⟩, fun e => by cases e⟩
      · cases j with
        | zero => exact link_first rfl hh
        | succ j =>
          have hj' : j < t.length := by simpa using hj
          have q := h1 j hj'
          have qh := link_has q
          rw [link_next (c := t.getD j 0) (x := endC W H ((c :: t).getD j 0)) (by rw [List.getD_cons_succ]) rfl qh]
          refine decide_eq_true ?_
          cases j with
          | zero => exact (h2 (by omega)).1
          | succ j =>
            rw [link_at rfl qh, atR_succ] at q
            rw [List.getD_cons_succ]
            exact of_decide_eq_true q
      · rw [List.length_cons, atR_succ]
        cases t with
        | nil => exact h3 rfl
        | cons d u =>
          have q := (h2 (by simp)).2.2
          rw [List.length_cons, atR_succ] at q
          rw [List.length_cons, List.getD_cons_succ]
          exact q
theorem walk_free {z a : Int} {f : Nat} {l : List Int} (h : walkF W H L P z f a = some l) (hm : meshG W H L = true) (h0 : 0 < l.length) : routeG W H L l = true ∧ freeG (nodesG W H L l) = true := by
  obtain ⟨h1, h2, _⟩ := walk_links f a l h
  have hr := route_yes hm h0 h1
  refine ⟨hr, ?_⟩
  have hlen := nodes_len hr
  rw [free_yes, hlen]
  · simp
  · intro i hi
    rw [hlen] at hi
    refine free_at (b := false) rfl (inG_no fun j hj => ?_)
    rw [List.length_take, hlen] at hj
    have hji : j < i := by omega
    rw [List.getD_eq_getElem?_getD, List.getElem?_take_of_lt hji, ← List.getD_eq_getElem?_getD, nodes_at hr (by omega), nodes_at hr (by omega)]
    intro e
    have hat : ∀ k, k ≤ l.length → (if k = 0 then a else endC W H (l.getD (k - 1) 0)) = atR W H l k := fun k hk => by
      unfold atR
      split
      · exact (h2 h0).1.symm
      · rfl
    obtain ⟨g1, w1⟩ := walk_drop f a l h j (by omega)
    obtain ⟨g2, w2⟩ := walk_drop f a l h i (by omega)
    rw [hat j (by omega), e] at w1
    rw [hat i (by omega)] at w2
    have := congrArg List.length (walk_det g1 g2 _ _ _ w1 w2)
    rw [List.length_drop, List.length_drop] at this
    omega
end
end Go.Proofs.YtidilfakganooaaGreatDoor
end
