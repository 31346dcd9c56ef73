/- What is proved here: small facts on worlds, owned rows and byte rows that the other texts of this seat use; nothing of the program; the drawing functions of the given model (a cursor over the bytes of a draw) return numbers in their ranges, for every cursor whose bytes can be read; only the cursor's own block and new blocks are written; a number picked from a list is one of the list; only the cursor's own block and new blocks are written; the numbers that the grid functions return, as mathematics; nothing of the program; a drawn grid is a valid one; only new blocks are written; a drawn grid is valid; only new blocks are written; the laws' size test answers whether a draw has more than a million bytes; nothing is written; small facts on rows of the call's own, on texts as cells and on the bytes of a text; nothing of the program; small facts on rows of integers of the call's own; nothing of the program; small facts on slices of integers that can be read, and new rows; nothing of the program; the numbers that the mesh functions return, as mathematics; nothing of the program; what the laws' search in a list returns, for all arguments; nothing is written; the numbers that the functions on routing tables return, as mathematics; nothing of the program; the standard tables, as mathematics: all of them are valid and minimal, and their longest walk is the diameter; nothing of the program; the directions of the four rules, taken one after the other, are the ports of the standard tables; nothing of the program; what the program's grid functions return, for all arguments; only new blocks are written; the column and the row that the program finds for a node that exists; only new blocks are written; the program's functions of directions and its four rules, for nodes that exist; only new blocks are written; the table of the rules that the program builds, and what it finds for a rule's number; only new blocks are written; names for what StandardPort and StandardTable return; nothing of the program; a store into a row of the rules' table; whether a grid has a node; small facts on new lists of numbers; nothing of the program; what the model's test of a range returns, and small facts on a box; nothing of the program; what the model's GridOk, NodeCount and its test of a node return, for all arguments; only new blocks are written; two boxed arguments stay known behind a call, and the number of pairs of nodes is small; nothing of the program; small facts on a square of 16 rows of 16 numbers that is written pair by pair, on its greatest number, and on walks of a table; nothing of the program; what the program's StandardTable returns, for all arguments; only new blocks are written; What is stated here: a mesh as the cells of a block, and a mesh whose first broken channels are good; nothing of the program; how a walk loads and stores a whole array of 256 numbers that is known as a block; nothing of the program but its types; what the program's NextNode and its end of a channel return, for all arguments (the channel: of 64 bits); only new blocks are written; the broken channels of a valid mesh are numbers of 64 bits; nothing of the program; what the program's MeshOk returns for numbers of 64 bits; only new blocks are written; what the program's table of ports holds for a mesh and a table of the right size, and what it is otherwise; only new blocks are written; small facts on a mesh and a table as blocks, and on a square that is laid into a new block; nothing of the program; lists of dependencies (pairs of channels) as mathematics: their order, where an element goes into an ascending list, merging, shifting, and their cells; nothing of the program. -/
import Derived.Test.YtidilfakganooaaDoorRows
import Derived.WalkKit
import Derived.ProofKit
import Derived.OpenShut
import Derived.Below
import Derived.BigQuiet
import Derived.Deep.QuietTactic
import Derived.Deep.Draws
import Derived.Laws.AppendOwn
import Derived.Lib.Hide
import Derived.IntWalk
import Derived.StillTailTactics
import Derived.OwnWalk
import Derived.Laws.IdiomStrings
import Derived.Lib.BufferRead
import Derived.Deep.AppendLies
import Derived.Outline
import Derived.Deep.RegionHeld3
import Derived.Deep.DrawnRows
import Derived.Laws.OwnMore
import Derived.Laws.Rows
import Derived.Laws.Tables
import Derived.Laws.ResultCell
section
namespace Go.Proofs.YtidilfakganooaaDoor
open Go.ChangeShapes Go.WideShapes Go.ChangeAt Go.RowKit
set_option linter.unusedVariables false

theorem ret_int64 {a b : Int} (h : a = b) : Ending.returned (.int .i64 a) = .returned (.int .i64 b) := by rw [h]
theorem ret_bool {a b : Bool} (h : a = b) : Ending.returned (.bool a) = .returned (.bool b) := by rw [h]

/-- No cell is held: for a drawn region that loads nothing. -/
def Tru (w : World) : Prop := w = w
theorem tru (w : World) : Tru w := rfl
/-- A contract that states the world on the left, turned for a still region. -/
theorem still_of {P : Program} {f : FuncId} {args : Array Value} {w : World} {v : Value} (h : Calls P f args w fun e w' => e = .returned v ∧ w = w') : Calls P f args w fun e w' => e = .returned v ∧ w' = w :=
  h.mono fun _ _ ⟨he, hw⟩ => ⟨he, hw.symm⟩

theorem gb_refl (w : World) (row : Option Nat) : w.grownBy w row := ⟨rfl, rfl, rfl, Nat.le_refl _, fun _ _ _ => rfl⟩
theorem gb_trans {a b c : World} {row : Option Nat} (h : a.grownBy b row) (k : b.grownBy c row) : a.grownBy c row :=
  ⟨k.os.trans h.os, k.tape.trans h.tape, k.output.trans h.output, Nat.le_trans h.size k.size, fun i hi hne => (k.block i (Nat.lt_of_lt_of_le hi h.size) hne).trans (h.block i hi hne)⟩
theorem gb_drewN {a w : World} {row : Option Nat} (h : a.grownBy w row) (n : Nat) : a.grownBy (w.drewN n) row := ⟨h.os, h.tape, h.output, h.size, h.block⟩
theorem gb_drew {a w : World} {row : Option Nat} (h : a.grownBy w row) : a.grownBy w.drew row := ⟨h.os, h.tape, h.output, h.size, h.block⟩
theorem gb_alloc {a w : World} {row : Option Nat} (h : a.grownBy w row) (o : Obj) : a.grownBy (w.alloc o) row :=
  ⟨h.os, h.tape, h.output, Nat.le_trans h.size (by simp), fun i hi hne => (Below.heap_alloc w o i (Nat.lt_of_lt_of_le hi h.size)).trans (h.block i hi hne)⟩
theorem gb_setCell {a w : World} {row : Option Nat} (h : a.grownBy w row) {p : Addr} (hp : some p.block = row ∨ a.heap.size ≤ p.block) (u : Value) : a.grownBy (w.setCell p u) row :=
  ⟨h.os, h.tape, h.output, by simpa [World.setCell] using h.size, fun i hi hne => (Below.heap_setCell w p u i (by
    rintro rfl
    rcases hp with hp | hp
    · exact hne hp
    · omega)).trans (h.block i hi hne)⟩
theorem gb_of_below {a w : World} (h : Below a.heap.size a w) (row : Option Nat) : a.grownBy w row := ⟨h.os, h.tape, h.output, h.size, fun i hi _ => h.block i hi⟩
theorem gb_below {B : Nat} {w w' : World} {g : Nat} (h : w.grownBy w' (some g)) (hB : B ≤ w.heap.size) (hg : B ≤ g) : Below B w w' :=
  ⟨h.os, h.tape, h.output, h.size, fun i hi => h.block i (by omega) (fun e => by cases e; omega)⟩
theorem gb_below_none {B : Nat} {w w' : World} (h : w.grownBy w' none) (hB : B ≤ w.heap.size) : Below B w w' :=
  ⟨h.os, h.tape, h.output, h.size, fun i hi => h.block i (by omega) (fun e => by cases e)⟩
theorem below_drewN {B : Nat} {a w : World} (h : Below B a w) (n : Nat) : Below B a (w.drewN n) := ⟨h.os, h.tape, h.output, h.size, h.block⟩

/-- A block of cells that the call may write, known whole. -/
def Blk (w : World) (g : Nat) (t : TypeId) (cs : Array Value) : Prop := w.heap[g]? = some (.cells cs t (0, 0))
section
variable {w w' : World} {g : Nat} {t : TypeId} {cs : Array Value}
theorem Blk.lt (h : Blk w g t cs) : g < w.heap.size := by
  rcases Nat.lt_or_ge g w.heap.size with hlt | hge
  · exact hlt
  · unfold Blk at h; rw [Array.getElem?_eq_none hge] at h; cases h
theorem Blk.cell (h : Blk w g t cs) (i : Nat) : w.cell? ⟨g, i, none⟩ = cs[i]? := cell_of_row w g i cs t (0, 0) h
theorem Blk.frozen (h : Blk w g t cs) (i : Nat) : w.frozen? ⟨g, i, none⟩ = false := by
  unfold Blk at h
  simp [World.frozen?, h]
theorem Blk.new (w : World) (t : TypeId) (cs : Array Value) : Blk (w.alloc (.cells cs t)) w.heap.size t cs := heap_alloc_new w _
theorem Blk.drewN (h : Blk w g t cs) (n : Nat) : Blk (w.drewN n) g t cs := h
theorem Blk.alloc (h : Blk w g t cs) (o : Obj) : Blk (w.alloc o) g t cs := (Below.heap_alloc w o g h.lt).trans h
theorem Blk.set_ (h : Blk w g t cs) (i : Nat) (u : Value) : Blk (w.setCell ⟨g, i, none⟩ u) g t (cs.setIfInBounds i u) := by
  unfold Blk at h ⊢
  simp [World.setCell, Array.getElem?_modify, h]
theorem Blk.far (h : Blk w g t cs) {p : Addr} (hp : g ≠ p.block) (u : Value) : Blk (w.setCell p u) g t cs := (Below.heap_setCell w p u g hp).trans h
theorem Blk.grown {row : Option Nat} (h : Blk w g t cs) (hb : w.grownBy w' row) (hg : some g ≠ row) : Blk w' g t cs := (hb.block g h.lt hg).trans h
theorem Blk.below {B : Nat} (h : Blk w g t cs) (hb : Below B w w') (hg : g < B) : Blk w' g t cs := (hb.block g hg).trans h
theorem own_ne {base : Nat} {e : TypeId} {size n : Nat} {v : Value} {xs : List Value} (h : w.ownsRow base e size v n xs) (hg : Blk w g t cs) (hne : e ≠ t) : v.ownBlock ≠ some g := by
  rcases h.2 with ⟨rfl, _⟩ | ⟨g', cap, cur, rfl, _, hh, _⟩
  · simp [Value.ownBlock]
  · intro he
    have : g' = g := by simpa [Value.ownBlock] using he
    subst this
    unfold Blk at hg
    rw [hg] at hh
    injection hh with hh
    injection hh with _ ht
    exact hne ht.symm
end

/-- A slice of bytes that came in: its first n cells are bytes, in a block below B. -/
def ByteRow (w : World) (B : Nat) (A : Option Addr) (n : Nat) : Prop :=
  0 < n → ∃ b off, A = some ⟨b, off, none⟩ ∧ b < B ∧ ∀ k, k < n → ∃ v : Int, 0 ≤ v ∧ v ≤ 255 ∧ w.cell? ⟨b, off + k, none⟩ = some (.int .u8 v)
theorem ByteRow.keep {w w' : World} {B n : Nat} {A : Option Addr} (h : ByteRow w B A n) (hk : ∀ p : Addr, p.block < B → w'.cell? p = w.cell? p) : ByteRow w' B A n := fun hn => by
  obtain ⟨b, off, hA, hb, hc⟩ := h hn
  refine ⟨b, off, hA, hb, fun k hkn => ?_⟩
  obtain ⟨v, h0, h1, hv⟩ := hc k hkn
  exact ⟨v, h0, h1, (hk _ hb).trans hv⟩
theorem ByteRow.more {w : World} {B B' n : Nat} {A : Option Addr} (h : ByteRow w B A n) (hB : B ≤ B') : ByteRow w B' A n := fun hn => by
  obtain ⟨b, off, hA, hb, hc⟩ := h hn
  exact ⟨b, off, hA, by omega, hc⟩

theorem byteRow_of {w : World} {n : Nat} (x : Addr) (zs : List Int) (hl : n ≤ zs.length) (hcell : ∀ i, i < zs.length → w.cell? (x.add i) = some (.int .u8 (zs.getD i 0))) (hwz : ∀ z ∈ zs, (Lit.int .u8 z).wf = true) :
    ByteRow w w.heap.size (some x) n := fun hn => by
  obtain ⟨b, off, spot⟩ := x
  have hc := hcell 0 (by omega)
  have hspot : spot = none := by simpa [Addr.add] using World.cell?_spot hc
  subst hspot
  have hlt : b < w.heap.size := by simpa [Addr.add] using World.block_lt_of_cell? _ _ hc
  refine ⟨b, off, rfl, hlt, fun k hk => ?_⟩
  have hk' : k < zs.length := by omega
  have hb := bounds_u8 (hwz (zs.getD k 0) (by simp [List.getD, List.getElem?_eq_getElem hk']))
  exact ⟨zs.getD k 0, hb.1, hb.2, by simpa [Addr.add_lit] using hcell k hk'⟩

theorem band_u (x : Int) (m : Nat) (hm : m ≤ 2147483647) : 0 ≤ bits .and .i64 x (m : Int) ∧ bits .and .i64 x (m : Int) ≤ m := by
  have h : ((BitVec.ofInt IntKind.i64.bits x) &&& (BitVec.ofInt IntKind.i64.bits (m : Int))).toNat ≤ m := by
    rw [BitVec.toNat_and]
    refine Nat.le_trans Nat.and_le_right ?_
    simp [IntKind.bits]
    omega
  have e : bits .and .i64 x (m : Int) = (((BitVec.ofInt IntKind.i64.bits x) &&& (BitVec.ofInt IntKind.i64.bits (m : Int))).toNat : Int) := by
    show IntKind.i64.wrap (((BitVec.ofInt IntKind.i64.bits x) &&& (BitVec.ofInt IntKind.i64.bits (m : Int))).toNat : Int) = _
    exact IntWalk.i64_in _ (by omega)
  rw [e]
  omega

/-- Bytes as the cells of a row. -/
def bytesV (l : List UInt8) : List Value := l.map fun c => Value.int .u8 (c.toNat : Int)
theorem bytesV_append (a b : List UInt8) : bytesV (a ++ b) = bytesV a ++ bytesV b := by simp [bytesV]
theorem bytesV_length (a : List UInt8) : (bytesV a).length = a.length := by simp [bytesV]

theorem take_snoc (s : ByteArray) (k : Nat) (h : k < s.size) : s.data.toList.take (k + 1) = s.data.toList.take k ++ [s[k]] := by
  rw [List.take_succ_eq_append_getElem (by simpa using h)]; rfl

end Go.Proofs.YtidilfakganooaaDoor
end

section
namespace Go.Proofs.YtidilfakganooaaDoor
open Go.ChangeShapes Go.WideShapes Go.ChangeAt Go.RowKit
set_option linter.unusedVariables false

/-- Block g is a cursor over a row of bytes that lies in an older block. -/
def Cur (w : World) (g : Nat) : Prop :=
  ∃ (A : Option Addr) (n cap i : Nat) (h : Int), Blk w g 83 #[.slice A n cap, .int .i64 i, .int .i64 h] ∧ i ≤ n ∧ n ≤ 1048576 ∧ ByteRow w g A n
theorem Cur.lt {w : World} {g : Nat} (h : Cur w g) : g < w.heap.size := by obtain ⟨A, n, cap, i, h, hb, _⟩ := h; exact hb.lt
theorem Cur.grown {w w' : World} {g : Nat} {row : Option Nat} (h : Cur w g) (hg : w.grownBy w' row) (hr : ∀ k, row = some k → g < k) : Cur w' g := by
  have hlt := h.lt
  obtain ⟨A, n, cap, i, h, hb, hi, hn, hr'⟩ := h
  exact ⟨A, n, cap, i, h, hb.grown hg (fun e => by have := hr g e.symm; omega), hi, hn, hr'.keep fun p hp => World.cell?_of_block (hg.block p.block (by omega) (fun e => by have := hr _ e.symm; omega))⟩
theorem Cur.other {w w' : World} {g : Nat} {base : Nat} {e : TypeId} {size n : Nat} {v : Value} {xs : List Value} (h : Cur w g) (hg : w.grownBy w' v.ownBlock) (ho : w.ownsRow base e size v n xs) (hbase : g < base) : Cur w' g :=
  h.grown hg (fun k hk => by have := (ho.lt k hk).1; omega)

/-- An integer between lo and hi is returned; only the cursor and new blocks are written. -/
def DrawnI (lo hi : Int) (g : Nat) (w : World) (e : Ending) (w' : World) : Prop := ∃ n : Int, e = .returned (.int .i64 n) ∧ lo ≤ n ∧ n ≤ hi ∧ Cur w' g ∧ w.grownBy w' (some g)
def DrawnB (g : Nat) (w : World) (e : Ending) (w' : World) : Prop := ∃ b : Bool, e = .returned (.bool b) ∧ Cur w' g ∧ w.grownBy w' (some g)

theorem Cur.of {w w' : World} {g : Nat} {A : Option Addr} {n cap i' : Nat} {cs : Array Value} {h' : Int} (hb : Blk w g 83 cs) (hr : ByteRow w g A n) (hg : w.grownBy w' (some g))
    (hb' : Blk w' g 83 #[.slice A n cap, .int .i64 i', .int .i64 h']) (hi : i' ≤ n) (hn : n ≤ 1048576) : Cur w' g := by
  have hlt := hb.lt
  exact ⟨A, n, cap, i', h', hb', hi, hn, hr.keep fun p hp => World.cell?_of_block (hg.block p.block (by omega) (fun e => by cases e; omega))⟩

theorem l01Byte (g : Nat) (w : World) (hcur : Cur w g) :
    Calls Tryd.prog 82 #[.pointer (some ⟨g, 0, none⟩)] w (DrawnI 0 255 g w) := by
  obtain ⟨A, n, cap, i, h, hb, hi, hn, hr⟩ := hcur
  have c0 : w.cell? ⟨g, 0, none⟩ = some (.slice A n cap) := hb.cell 0
  have c1 : w.cell? ⟨g, 1, none⟩ = some (.int .i64 i) := hb.cell 1
  have c2 : w.cell? ⟨g, 2, none⟩ = some (.int .i64 h) := hb.cell 2
  have f1 := hb.frozen 1
  have f2 := hb.frozen 2
  have Hb : Hid (Blk w g 83 #[.slice A n cap, .int .i64 i, .int .i64 h]) := hb
  have Hr : Hid (ByteRow w g A n) := hr
  by_cases hlt : i < n
  · obtain ⟨b, off, rfl, hbg, hcell⟩ := hr (by omega)
    obtain ⟨v, hv0, hv1, cv⟩ := hcell i hlt
    have hne : ¬ g = b := by omega
    have hd : decide ((i : Int) < (n : Int)) = true := by simp; omega
    clear hb hr hcell
    go_enter Tryd.func82, Tryd.ntmps82
    go_wp2
    go_quiet (fail)
    go_wp2
    go_quiet (fail)
    go_wp2
    go_quiet (fail)
    go_wp2
    go_ret
    refine ⟨_, rfl, (band_u _ 255 (by omega)).1, (band_u _ 255 (by omega)).2, ?_, ?_⟩
    · refine Cur.of Hb.out Hr.out ?_ (i' := i + 1) (((Hb.out.set_ 2 _).drewN _).set_ 1 _) (by omega) hn
      repeat (first | exact gb_refl _ _ | refine gb_drewN ?_ _ | refine gb_setCell ?_ (.inl rfl) _)
    · repeat (first | exact gb_refl _ _ | refine gb_drewN ?_ _ | refine gb_setCell ?_ (.inl rfl) _)
  · have hd : decide ((i : Int) < (n : Int)) = false := by simp; omega
    clear hb hr
    go_enter Tryd.func82, Tryd.ntmps82
    go_wp2
    go_quiet (fail)
    go_wp2
    go_quiet (fail)
    go_wp2
    go_ret
    refine ⟨_, rfl, (band_u _ 255 (by omega)).1, (band_u _ 255 (by omega)).2, ?_, ?_⟩
    · refine Cur.of Hb.out Hr.out ?_ (i' := i) (((Hb.out.set_ 2 _).drewN _).drewN _) hi hn
      repeat (first | exact gb_refl _ _ | refine gb_drewN ?_ _ | refine gb_setCell ?_ (.inl rfl) _)
    · repeat (first | exact gb_refl _ _ | refine gb_drewN ?_ _ | refine gb_setCell ?_ (.inl rfl) _)

/-- A drawn number below n: 0 where n is not above 0. -/
def DrawnBelow (n : Int) (g : Nat) (w : World) (e : Ending) (w' : World) : Prop := ∃ r : Int, e = .returned (.int .i64 r) ∧ 0 ≤ r ∧ (0 < n → r < n) ∧ (n ≤ 0 → r = 0) ∧ Cur w' g ∧ w.grownBy w' (some g)

theorem l01Below (n : Int) (g : Nat) (w : World) (hcur : Cur w g) :
    Calls Tryd.prog 60 #[.pointer (some ⟨g, 0, none⟩), .int .i64 n] w (DrawnBelow n g w) := by
  by_cases h0 : n ≤ 0
  · go_enter Tryd.func60, Tryd.ntmps60
    go_wp2
    go_ret
    exact ⟨0, rfl, by omega, by omega, fun _ => rfl, hcur, gb_refl _ _⟩
  · by_cases h1 : n ≤ 256
    · go_enter Tryd.func60, Tryd.ntmps60
      go_wp2_with fail
      refine (l01Byte g _ hcur).mono ?_
      rintro e w1 ⟨r, rfl, hr0, hr1, hcur1, hg1⟩
      have hm0 : 0 ≤ r % n := Int.emod_nonneg _ (by omega)
      have hm1 : r % n < n := Int.emod_lt_of_pos _ (by omega)
      go_wp2_with fail
      go_ret
      exact ⟨r % n, rfl, hm0, fun _ => hm1, fun h => (by omega), hcur1, hg1⟩
    · go_enter Tryd.func60, Tryd.ntmps60
      go_wp2_with fail
      refine (l01Byte g _ hcur).mono ?_
      rintro e w1 ⟨r1, rfl, hr10, hr11, hcur1, hg1⟩
      go_wp2_with fail
      refine (l01Byte g _ hcur1).mono ?_
      rintro e w2 ⟨r2, rfl, hr20, hr21, hcur2, hg2⟩
      go_wp2_with fail
      refine (l01Byte g _ hcur2).mono ?_
      rintro e w3 ⟨r3, rfl, hr30, hr31, hcur3, hg3⟩
      go_wp2_with fail
      refine (l01Byte g _ hcur3).mono ?_
      rintro e w4 ⟨r4, rfl, hr40, hr41, hcur4, hg4⟩
      have hm0 : 0 ≤ (r1 * 16777216 + r2 * 65536 + r3 * 256 + r4) % n := Int.emod_nonneg _ (by omega)
      have hm1 : (r1 * 16777216 + r2 * 65536 + r3 * 256 + r4) % n < n := Int.emod_lt_of_pos _ (by omega)
      go_wp2_with fail
      go_ret
      exact ⟨_, rfl, hm0, fun _ => hm1, fun h => (by omega), hcur4, gb_trans hg1 (gb_trans hg2 (gb_trans hg3 hg4))⟩

/-- A new cursor over the bytes of a draw. -/
def NewCur (w : World) (e : Ending) (w' : World) : Prop := ∃ g : Nat, e = .returned (.pointer (some ⟨g, 0, none⟩)) ∧ w.heap.size ≤ g ∧ Cur w' g ∧ Below w.heap.size w w'

set_option maxRecDepth 100000 in
theorem l01New (A : Option Addr) (n cap : Nat) (w : World) (hr : ByteRow w w.heap.size A n) (hn : n ≤ 1048576) :
    Calls Tryd.prog 23 #[.slice A n cap] w (NewCur w) := by
  have Hr : Hid (ByteRow w w.heap.size A n) := hr
  go_enter Tryd.func23, Tryd.ntmps23
  go_wp2
  go_loop [3, 4] (fun h i => ∃ (k : Nat) (z : Int), k ≤ n ∧ i = .int .i64 k ∧ h = .int .i64 z) (fun _ i => n - (intOf i).toNat)
  case atStart => exact ⟨0, _, Nat.zero_le _, rfl, rfl⟩
  case round =>
    obtain ⟨k, z, hk, rfl, rfl⟩ := hrel
    by_cases hlt : k < n
    · obtain ⟨b, off, rfl, hbg, hcell⟩ := hr (by omega)
      obtain ⟨v, hv0, hv1, cv⟩ := hcell k hlt
      by_cases h4 : k < 4000
      · clear hcell hr
        go_wp2
        go_round
        case rel => exact ⟨k + 1, _, by omega, by go_num, rfl⟩
        case measure => simp [intOf]; omega
      · clear hcell hr
        go_wp2
        go_ret
        exact ⟨w.heap.size, rfl, Nat.le_refl _, ⟨_, n, cap, 0, z, Blk.new _ _ _, Nat.zero_le _, hn, Hr.out.keep fun p hp => World.cell?_of_block (Below.heap_alloc _ _ _ hp)⟩, (Below.refl _ _).alloc (Nat.le_refl _) _⟩
    · clear hr
      go_wp2
      go_ret
      exact ⟨w.heap.size, rfl, Nat.le_refl _, ⟨_, n, cap, 0, z, Blk.new _ _ _, Nat.zero_le _, hn, Hr.out.keep fun p hp => World.cell?_of_block (Below.heap_alloc _ _ _ hp)⟩, (Below.refl _ _).alloc (Nat.le_refl _) _⟩
end Go.Proofs.YtidilfakganooaaDoor
end

section
namespace Go.Proofs.YtidilfakganooaaDoor
open Go.ChangeShapes Go.WideShapes Go.ChangeAt Go.RowKit
set_option linter.unusedVariables false

/-- A 64-bit integer is returned for which P holds. -/
def DrawnP (P : Int → Prop) (g : Nat) (w : World) (e : Ending) (w' : World) : Prop := ∃ n : Int, e = .returned (.int .i64 n) ∧ P n ∧ Cur w' g ∧ w.grownBy w' (some g)
def IsI64 (n : Int) : Prop := (Lit.int .i64 n).wf = true

theorem l01PickInt (P : Int → Prop) (b m cap : Nat) (g : Nat) (w : World) (hcur : Cur w g) (hm : 0 < m) (hb : b ≠ g) (hbs : b < w.heap.size)
    (hL : ∀ k, k < m → ∃ x : Int, P x ∧ w.cell? ⟨b, k, none⟩ = some (.int .i64 x)) :
    Calls Tryd.prog 41 #[.pointer (some ⟨g, 0, none⟩), .slice (some ⟨b, 0, none⟩) m cap] w (DrawnP P g w) := by
  have HL := Lib.hid hL
  clear hL
  go_enter Tryd.func41, Tryd.ntmps41
  go_wp2_with fail
  refine (l01Below m g _ hcur).mono ?_
  rintro e w1 ⟨r, rfl, hr0, hr1, hr2, hcur1, hg1⟩
  obtain ⟨k, rfl⟩ : ∃ k : Nat, r = k := ⟨r.toNat, by omega⟩
  have hk : k < m := by omega
  obtain ⟨x, hx, hc⟩ := HL.out k hk
  have hc1 : w1.cell? ⟨b, k, none⟩ = some (.int .i64 x) := hg1.cell hc (fun e => hb (by cases e; rfl))
  clear hr2
  go_wp2_with fail
  go_ret
  exact ⟨x, rfl, hx, hcur1, hg1⟩

theorem pick_new (P : Int → Prop) (L : List Int) (T : TypeId) (cs : Array Value) (m cap : Nat) (g : Nat) (w : World) (hcur : Cur w g) (hcs : cs = (L.map fun x => Value.int .i64 x).toArray) (hm : m = L.length) (h0 : 0 < m) (hP : ∀ x ∈ L, P x) :
    Calls Tryd.prog 41 #[.pointer (some ⟨g, 0, none⟩), .slice (some ⟨w.heap.size, 0, none⟩) m cap] (w.alloc (.cells cs T)) (DrawnP P g w) := by
  have hlt := hcur.lt
  have hal : w.grownBy (w.alloc (.cells cs T)) none := gb_alloc (gb_refl _ _) _
  have hal2 : w.grownBy (w.alloc (.cells cs T)) (some g) := gb_alloc (gb_refl _ _) _
  refine (l01PickInt P w.heap.size m cap g _ (hcur.grown hal (fun k e => by cases e)) h0 (by omega) (by simp) ?_).mono ?_
  · intro k hk
    have hk' : k < L.length := by omega
    refine ⟨L[k], hP _ (List.getElem_mem hk'), ?_⟩
    rw [(Blk.new w T cs).cell k, hcs]
    simp [hk']
  · rintro e w' ⟨x, rfl, hx, hc, hg⟩
    exact ⟨x, rfl, hx, hc, gb_trans hal2 hg⟩

theorem pick_at (P : Int → Prop) (L : List Int) (T : TypeId) (cs : Array Value) (m cap b : Nat) (g : Nat) (w : World) (hb : b = w.heap.size) (hcur : Cur w g) (hcs : cs = (L.map fun x => Value.int .i64 x).toArray) (hm : m = L.length) (h0 : 0 < m) (hP : ∀ x ∈ L, P x) :
    Calls Tryd.prog 41 #[.pointer (some ⟨g, 0, none⟩), .slice (some ⟨b, 0, none⟩) m cap] (w.alloc (.cells cs T)) (DrawnP P g w) := by
  subst hb
  exact pick_new P L T cs m cap g w hcur hcs hm h0 hP

theorem i64_small {n : Int} (h0 : -1000 ≤ n) (h1 : n ≤ 1000000001) : IsI64 n := WalkArith.wf_i64 (by omega)
end Go.Proofs.YtidilfakganooaaDoor
end

section
namespace Go.Proofs.YtidilfakganooaaDoor
open Go.ChangeShapes Go.WideShapes Go.ChangeAt Go.RowKit
set_option linter.unusedVariables false

def okG (W H : Int) : Bool := decide (1 ≤ W ∧ W ≤ 4 ∧ 1 ≤ H ∧ H ≤ 4)
def countG (W H : Int) : Int := if okG W H then W * H else 0
def atG (W H x y : Int) : Int := if okG W H = true ∧ 0 ≤ x ∧ x < W ∧ 0 ≤ y ∧ y < H then y * W + x else -1
def hasG (W H n : Int) : Bool := decide (0 ≤ n ∧ n < countG W H)
def colG (W H n : Int) : Int := if hasG W H n then n % W else -1
def rowG (W H n : Int) : Int := if hasG W H n then n / W else -1
def absI (x : Int) : Int := if x < 0 then -x else x
def distG (W H a b : Int) : Int := if hasG W H a = true ∧ hasG W H b = true then absI (a % W - b % W) + absI (a / W - b / W) else -1
def diamG (W H : Int) : Int := if okG W H then W + H - 2 else -1

theorem okG_iff {W H : Int} : okG W H = true ↔ 1 ≤ W ∧ W ≤ 4 ∧ 1 ≤ H ∧ H ≤ 4 := by simp [okG]
theorem okG_cases {W H : Int} (h : okG W H = true) : (W = 1 ∨ W = 2 ∨ W = 3 ∨ W = 4) ∧ (H = 1 ∨ H = 2 ∨ H = 3 ∨ H = 4) := by
  rw [okG_iff] at h; omega
theorem countG_le (W H : Int) : 0 ≤ countG W H ∧ countG W H ≤ 16 := by
  unfold countG
  split
  · rename_i h
    rcases okG_cases h with ⟨h1, h2⟩
    rcases h1 with rfl | rfl | rfl | rfl <;> rcases h2 with rfl | rfl | rfl | rfl <;> decide
  · omega
theorem hasG_iff {W H n : Int} : hasG W H n = true ↔ 0 ≤ n ∧ n < countG W H := by simp [hasG]
theorem hasG_ok {W H n : Int} (h : hasG W H n = true) : okG W H = true ∧ 0 ≤ n ∧ n < W * H ∧ countG W H = W * H := by
  rw [hasG_iff] at h
  cases hok : okG W H with
  | true => have hc : countG W H = W * H := by simp [countG, hok]
            rw [hc] at h; exact ⟨rfl, h.1, h.2, hc⟩
  | false => have hc : countG W H = 0 := by simp [countG, hok]
             rw [hc] at h; omega

theorem hasG_le {W H n : Int} (h : hasG W H n = true) : 0 ≤ n ∧ n ≤ 15 := by
  rw [hasG_iff] at h; have := countG_le W H; omega
theorem row_wrap {W n : Int} (h0 : 0 ≤ n) (h1 : n ≤ 15) (hW : W = 1 ∨ W = 2 ∨ W = 3 ∨ W = 4) : wrap64 (n.tdiv W) = n / W := by
  rw [Int.tdiv_eq_ediv_of_nonneg h0]
  refine IntWalk.wrap64_in _ ?_
  rcases hW with rfl | rfl | rfl | rfl <;> omega
/-- Column and row of a node are in range, and give the node back. -/
theorem place_of {W H n : Int} (h : hasG W H n = true) : 0 ≤ n % W ∧ n % W < W ∧ 0 ≤ n / W ∧ n / W < H ∧ n / W * W + n % W = n := by
  obtain ⟨hok, h0, h1, _⟩ := hasG_ok h
  obtain ⟨hW, hH⟩ := okG_cases hok
  rcases hW with rfl | rfl | rfl | rfl <;> rcases hH with rfl | rfl | rfl | rfl <;> omega

theorem absI_nonneg (x : Int) : 0 ≤ absI x := by unfold absI; split <;> omega
theorem absI_neg (x : Int) : absI (-x) = absI x := by unfold absI; (repeat' split) <;> omega
theorem absI_swap (a b : Int) : absI (a - b) = absI (b - a) := by unfold absI; (repeat' split) <;> omega
theorem absI_tri (a b c : Int) : absI (a - c) ≤ absI (a - b) + absI (b - c) := by unfold absI; (repeat' split) <;> omega
theorem absI_lt {a b W : Int} (ha : 0 ≤ a) (ha' : a < W) (hb : 0 ≤ b) (hb' : b < W) : absI (a - b) ≤ W - 1 := by unfold absI; split <;> omega
theorem absI_zero {x : Int} : absI x = 0 ↔ x = 0 := by unfold absI; split <;> omega

theorem distG_ok {W H a b : Int} (ha : hasG W H a = true) (hb : hasG W H b = true) : distG W H a b = absI (a % W - b % W) + absI (a / W - b / W) := by simp [distG, ha, hb]
theorem distG_swap (W H a b : Int) : distG W H a b = distG W H b a := by
  unfold distG
  rw [absI_swap (a % W) (b % W), absI_swap (a / W) (b / W)]
  by_cases ha : hasG W H a = true <;> by_cases hb : hasG W H b = true <;> simp [ha, hb]
theorem distG_nonneg {W H a b : Int} (ha : hasG W H a = true) (hb : hasG W H b = true) : 0 ≤ distG W H a b := by
  rw [distG_ok ha hb]
  have := absI_nonneg (a % W - b % W); have := absI_nonneg (a / W - b / W); omega
theorem distG_zero {W H a b : Int} (ha : hasG W H a = true) (hb : hasG W H b = true) : distG W H a b = 0 ↔ a = b := by
  rw [distG_ok ha hb]
  have h1 := absI_nonneg (a % W - b % W); have h2 := absI_nonneg (a / W - b / W)
  constructor
  · intro h
    have e1 := absI_zero.1 (show absI (a % W - b % W) = 0 by omega)
    have e2 := absI_zero.1 (show absI (a / W - b / W) = 0 by omega)
    have pa := (place_of ha).2.2.2.2
    have pb := (place_of hb).2.2.2.2
    rw [← pa, ← pb, show a % W = b % W by omega, show a / W = b / W by omega]
  · rintro rfl
    simp [absI]
theorem distG_le {W H a b : Int} (ha : hasG W H a = true) (hb : hasG W H b = true) : distG W H a b ≤ diamG W H := by
  have hok := (hasG_ok ha).1
  rw [distG_ok ha hb]
  obtain ⟨a0, a1, a2, a3, _⟩ := place_of ha
  obtain ⟨b0, b1, b2, b3, _⟩ := place_of hb
  have h1 := absI_lt a0 a1 b0 b1
  have h2 := absI_lt a2 a3 b2 b3
  simp only [diamG, hok, if_true]
  omega
theorem distG_tri {W H a b c : Int} (ha : hasG W H a = true) (hb : hasG W H b = true) (hc : hasG W H c = true) : distG W H a c ≤ distG W H a b + distG W H b c := by
  rw [distG_ok ha hb, distG_ok ha hc, distG_ok hb hc]
  have h1 := absI_tri (a % W) (b % W) (c % W)
  have h2 := absI_tri (a / W) (b / W) (c / W)
  omega
theorem atG_place {W H n : Int} (h : hasG W H n = true) : atG W H (colG W H n) (rowG W H n) = n := by
  obtain ⟨h0, h1, h2, h3, h4⟩ := place_of h
  have hok := (hasG_ok h).1
  simp only [colG, rowG, h, if_true]
  unfold atG
  rw [if_pos ⟨hok, h0, h1, h2, h3⟩, h4]
/-- The greatest distance is that of opposite corners. -/
theorem diam_corner {W H : Int} (hok : okG W H = true) : distG W H 0 (W * H - 1) = diamG W H := by
  obtain ⟨hW, hH⟩ := okG_cases hok
  rcases hW with rfl | rfl | rfl | rfl <;> rcases hH with rfl | rfl | rfl | rfl <;> decide

end Go.Proofs.YtidilfakganooaaDoor
end

section
namespace Go.Proofs.YtidilfakganooaaDoor
open Go.ChangeShapes Go.WideShapes Go.ChangeAt Go.RowKit
set_option linter.unusedVariables false

/-- A grid with sides from 1 to 4 is returned; only the cursor and new blocks are written. -/
def DrawnGridC (g : Nat) (w : World) (e : Ending) (w' : World) : Prop := ∃ W H : Int, e = .returned (.agg #[.int .i64 W, .int .i64 H]) ∧ okG W H = true ∧ Cur w' g ∧ w.grownBy w' (some g)
def Side (n : Int) : Prop := 1 ≤ n ∧ n ≤ 4

theorem gb_set2 {a w : World} {row : Option Nat} {b : Nat} (h : a.grownBy w row) (hb : a.heap.size ≤ b) (x y : Value) : a.grownBy ((w.setCell ⟨b, 0, none⟩ x).setCell ⟨b, 1, none⟩ y) row :=
  gb_setCell (gb_setCell h (.inr hb) x) (.inr hb) y
theorem cur_set2 {w : World} {g b : Nat} (h : Cur w g) (hb : g < b) (x y : Value) : Cur ((w.setCell ⟨b, 0, none⟩ x).setCell ⟨b, 1, none⟩ y) g := by
  have hg : w.grownBy ((w.setCell ⟨b, 0, none⟩ x).setCell ⟨b, 1, none⟩ y) (some b) := gb_setCell (gb_setCell (gb_refl w (some b)) (.inl rfl) x) (.inl rfl) y
  exact h.grown hg (fun k e => by cases e; exact hb)

theorem l02Grid (g : Nat) (w : World) (hcur : Cur w g) :
    Calls Tryd.prog 22 #[.pointer (some ⟨g, 0, none⟩)] w (DrawnGridC g w) := by
  have hlt := hcur.lt
  have hc0 : Cur (w.alloc (.cells #[.int .i64 0, .int .i64 0] 25)) g := hcur.grown (gb_alloc (gb_refl _ none) _) (fun k e => by cases e)
  have HB := Lib.hid (Blk.new w 25 #[.int .i64 0, .int .i64 0])
  have HA := Lib.hid (show w.grownBy (w.alloc (.cells #[.int .i64 0, .int .i64 0] 25)) (some g) from gb_alloc (gb_refl _ _) _)
  clear hcur
  go_enter Tryd.func22, Tryd.ntmps22
  go_wp2_with fail
  refine (pick_at Side [1, 2, 2, 3, 3, 4] _ _ 6 6 _ g _ (by simp) hc0 rfl rfl (by omega) (by unfold Side; decide)).mono ?_
  rintro e w1 ⟨W, rfl, hW, hcur1, hg1⟩
  have hb1 := HB.out.grown hg1 (fun e => by cases e; omega)
  have HW := Lib.hid hW
  have HG1 := Lib.hid (gb_trans HA.out hg1)
  have HB1 := Lib.hid hb1
  clear hc0 hW hg1 hb1
  go_wp2_with fail
  refine (pick_at Side [1, 2, 2, 3, 3, 4] _ _ 6 6 _ g _ rfl hcur1 rfl rfl (by omega) (by unfold Side; decide)).mono ?_
  rintro e w2 ⟨H, rfl, hH, hcur2, hg2⟩
  have hb2 := HB1.out.grown hg2 (fun e => by cases e; omega)
  have HH := Lib.hid hH
  have HG2 := Lib.hid (gb_trans HG1.out hg2)
  have HB2 := Lib.hid hb2
  have HC2 := Lib.hid hcur2
  have c0 := hb2.cell 0
  have c1 := hb2.cell 1
  have f0 := hb2.frozen 0
  have f1 := hb2.frozen 1
  simp at c0 c1
  clear hcur1 hcur2 hg2 hb2
  go_wp2_with fail
  have d0 := (HB2.out.set_ 0 (.int .i64 W)).cell 1
  have d1 := ((HB2.out.set_ 0 (.int .i64 W)).set_ 1 (.int .i64 H)).cell 0
  have d2 := ((HB2.out.set_ 0 (.int .i64 W)).set_ 1 (.int .i64 H)).cell 1
  simp at d0 d1 d2
  refine bodyPost_ret (v := .agg #[.int .i64 W, .int .i64 H]) (by simp [results, Tryd.results22, go_sem, d1, d2]) rfl ⟨W, H, rfl, okG_iff.2 ⟨HW.out.1, HW.out.2, HH.out.1, HH.out.2⟩, ?_, ?_⟩
  · exact cur_set2 HC2.out hlt _ _
  · exact gb_set2 HG2.out (Nat.le_refl _) _ _
end Go.Proofs.YtidilfakganooaaDoor
end

section
namespace Go.Proofs.YtidilfakganooaaDoor
open Go.ChangeShapes Go.WideShapes Go.ChangeAt Go.RowKit
set_option linter.unusedVariables false

/-- A grid with sides from 1 to 4 is returned; only new blocks are written. -/
def DrawnGrid (w : World) (e : Ending) (w' : World) : Prop := ∃ W H : Int, e = .returned (.agg #[.int .i64 W, .int .i64 H]) ∧ okG W H = true ∧ Below w.heap.size w w'

theorem drawGrid (A : Option Addr) (n cap : Nat) (w : World) (hr : ByteRow w w.heap.size A n) (hn : n ≤ 1048576) :
    Calls Tryd.prog 6 #[.slice A n cap] w (DrawnGrid w) := by
  have hr0 : ByteRow (w.alloc (.cells #[.int .i64 0, .int .i64 0] 25)) (w.alloc (.cells #[.int .i64 0, .int .i64 0] 25)).heap.size A n := (hr.keep fun p hp => World.cell?_of_block (Below.heap_alloc _ _ _ hp)).more (by simp)
  have HB := Lib.hid (Blk.new w 25 #[.int .i64 0, .int .i64 0])
  have HA := Lib.hid (show Below w.heap.size w (w.alloc (.cells #[.int .i64 0, .int .i64 0] 25)) from (Below.refl _ _).alloc (Nat.le_refl _) _)
  have HR := Lib.hid hr0
  clear hr hr0
  go_enter Tryd.func6, Tryd.ntmps6
  go_wp2_with fail
  refine (l01New _ _ _ _ HR.out hn).mono ?_
  rintro e w1 ⟨g, rfl, hg, hc1, hbel⟩
  simp at hg
  have hs : (w.alloc (.cells #[.int .i64 0, .int .i64 0] 25)).heap.size = w.heap.size + 1 := by simp
  have HG := Lib.hid hg
  have hb1 := HB.out.below hbel (by simp)
  have HB1 := Lib.hid hb1
  have HA1 := Lib.hid (show Below w.heap.size w w1 from ⟨hbel.os.trans HA.out.os, hbel.tape.trans HA.out.tape, hbel.output.trans HA.out.output, Nat.le_trans HA.out.size hbel.size, fun i hi => (hbel.block i (by simp; omega)).trans (HA.out.block i hi)⟩)
  clear hbel hb1 hg
  go_wp2_with fail
  refine (l02Grid g _ hc1).mono ?_
  rintro e w2 ⟨W, H, rfl, hok, hc2, hg2⟩
  have hb2 := HB1.out.grown hg2 (fun e => by cases e; have := HG.out; omega)
  have HB2 := Lib.hid hb2
  have HA2 := Lib.hid (HA1.out.trans (gb_below hg2 HA1.out.size (by have := HG.out; omega)))
  have c0 := hb2.cell 0
  have c1 := hb2.cell 1
  have f0 := hb2.frozen 0
  have f1 := hb2.frozen 1
  simp at c0 c1
  clear hb2 hg2 hc1 hc2 hs
  go_wp2_with fail
  have d1 := ((HB2.out.set_ 0 (.int .i64 W)).set_ 1 (.int .i64 H)).cell 0
  have d2 := ((HB2.out.set_ 0 (.int .i64 W)).set_ 1 (.int .i64 H)).cell 1
  simp at d1 d2
  refine bodyPost_ret (v := .agg #[.int .i64 W, .int .i64 H]) (by simp [results, Tryd.results6, go_sem, d1, d2]) rfl ⟨W, H, rfl, hok, ?_⟩
  have hz : w.grownBy w2 none := gb_of_below HA2.out none
  exact gb_below_none (gb_set2 hz (Nat.le_refl _) _ _) (Nat.le_refl _)
end Go.Proofs.YtidilfakganooaaDoor
end

section
namespace Go.Proofs.YtidilfakganooaaDoor
open Go.ChangeShapes Go.WideShapes Go.ChangeAt Go.RowKit
set_option linter.unusedVariables false

theorem lawsBig (A : Option Addr) (n cap : Nat) (w : World) :
    Calls Tryd.prog 5 #[.slice A n cap] w fun e w' => e = .returned (.bool (decide (1048576 < n))) ∧ w = w' := by
  go_enter Tryd.func5, Tryd.ntmps5
  go_wp2_with fail
  go_ret
  exact ⟨ret_bool (by simp; omega), rfl⟩
end Go.Proofs.YtidilfakganooaaDoor
end

section
namespace Go.Proofs.YtidilfakganooaaDoor
open Go.ChangeShapes Go.WideShapes Go.ChangeAt Go.RowKit
set_option linter.unusedVariables false

theorem own_form {w : World} {base : Nat} {e : TypeId} {size n : Nat} {v : Value} {xs : List Value} (h : w.ownsRow base e size v n xs) :
    ∃ A cap, v = .slice A n cap ∧ (0 < n → ∃ g, A = some ⟨g, 0, none⟩) := by
  rcases h.2 with ⟨rfl, rfl⟩ | ⟨g, cap, cur, rfl, _⟩
  · exact ⟨none, 0, rfl, fun h => absurd h (by omega)⟩
  · exact ⟨_, cap, rfl, fun _ => ⟨g, rfl⟩⟩
theorem own_le {w : World} {base : Nat} {e : TypeId} {size n : Nat} {v : Value} {xs : List Value} (h : w.ownsRow base e size v n xs) : n ≤ maxLen := by
  rcases h.2 with ⟨rfl, rfl⟩ | ⟨g, cap, cur, rfl, _, _, h1, h2, _⟩
  · exact Nat.zero_le _
  · exact Nat.le_trans h1 h2
theorem own_drewN {w : World} {base : Nat} {e : TypeId} {size n : Nat} {v : Value} {xs : List Value} (h : w.ownsRow base e size v n xs) (m : Nat) : (w.drewN m).ownsRow base e size v n xs := h

def strsV (l : List ByteArray) : List Value := l.map Value.string
theorem strsV_append (a b : List ByteArray) : strsV (a ++ b) = strsV a ++ strsV b := by simp [strsV]
def byteOf (s : ByteArray) (i : Nat) : Nat := (s.data.toList.getD i 0).toNat
theorem byteOf_lt (s : ByteArray) (i : Nat) : byteOf s i < 256 := (s.data.toList.getD i 0).toNat_lt
theorem byteOf_get (s : ByteArray) (i : Nat) (h : i < s.size) : s[i].toNat = byteOf s i := by
  unfold byteOf
  rw [List.getD_eq_getElem?_getD, List.getElem?_eq_getElem (by simpa using h)]; rfl
def RetS (s : ByteArray) (w : World) (e : Ending) (w' : World) : Prop := e = .returned (.string s) ∧ w.grownBy w' none

def RetB (b : Bool) (w : World) (e : Ending) (w' : World) : Prop := e = .returned (.bool b) ∧ w.grownBy w' none
def RetI (k : Int) (row : Option Nat) (w : World) (e : Ending) (w' : World) : Prop := e = .returned (.int .i64 k) ∧ w.grownBy w' row

theorem gb_of_none {a b : World} (h : a.grownBy b none) (row : Option Nat) : a.grownBy b row := ⟨h.os, h.tape, h.output, h.size, fun i hi _ => h.block i hi (by simp)⟩
theorem strs_cell {w : World} {base : Nat} {n g cap : Nat} {l : List ByteArray} (h : w.ownsRow base 9 1 (.slice (some ⟨g, 0, none⟩) n cap) n (strsV l)) (k : Nat) (hk : k < n) (hl : l.length = n) :
    w.cell? ⟨g, k, none⟩ = some (.string l[k]) := by
  rw [h.cellAt k (by omega)]
  simp [strsV]

/-- A row of the call's own stays over a call that writes new blocks alone. -/
theorem own_below {w w' : World} {base : Nat} {e : TypeId} {size n : Nat} {v : Value} {xs : List Value} (h : w.ownsRow base e size v n xs) (hb : Below w.heap.size w w') : w'.ownsRow base e size v n xs :=
  h.kept (gb_of_below hb none) (by cases hv : v.ownBlock <;> simp)
theorem own_none {w w' : World} {base : Nat} {e : TypeId} {size n : Nat} {v : Value} {xs : List Value} (h : w.ownsRow base e size v n xs) (hb : w.grownBy w' none) : w'.ownsRow base e size v n xs :=
  h.kept hb (by cases hv : v.ownBlock <;> simp)
theorem own_apart {w w' : World} {b1 b2 : Nat} {e1 e2 : TypeId} {s1 s2 n1 n2 : Nat} {v1 v2 : Value} {x1 x2 : List Value} (h1 : w.ownsRow b1 e1 s1 v1 n1 x1) (hlt : ∀ k, v1.ownBlock = some k → k < b2) (h2 : w.ownsRow b2 e2 s2 v2 n2 x2) (hg : w.grownBy w' v2.ownBlock) : w'.ownsRow b1 e1 s1 v1 n1 x1 :=
  h1.kept hg (by
    cases hv : v1.ownBlock with
    | none => exact .inl rfl
    | some k => exact .inr (fun e => by have := hlt k hv; have := (h2.lt k e.symm).1; omega))
theorem info_str : (Tryd.prog.info? 9).map (fun i => (i.zero, i.size, i.bytes)) = some (some (.string ⟨#[]⟩), 1, 16) := by kernel_rfl

end Go.Proofs.YtidilfakganooaaDoor
end

section
namespace Go.Proofs.YtidilfakganooaaDoor
open Go.ChangeShapes Go.WideShapes Go.ChangeAt Go.RowKit
set_option linter.unusedVariables false

def intsV (l : List Int) : List Value := l.map fun x => Value.int .i64 x
theorem intsV_append (a b : List Int) : intsV (a ++ b) = intsV a ++ intsV b := by simp [intsV]
theorem intsV_length (a : List Int) : (intsV a).length = a.length := by simp [intsV]
theorem info_int : (Tryd.prog.info? 3).map (fun i => (i.zero, i.size, i.bytes)) = some (some (.int .i64 0), 1, 8) := by kernel_rfl
theorem ints_cell {w : World} {base n g cap : Nat} {l : List Int} (h : w.ownsRow base 3 1 (.slice (some ⟨g, 0, none⟩) n cap) n (intsV l)) (k : Nat) (x : Int) (hk : l[k]? = some x) (hl : l.length = n) :
    w.cell? ⟨g, k, none⟩ = some (.int .i64 x) := by
  have hlt : k < n := by
    rcases Nat.lt_or_ge k n with h1 | h1
    · exact h1
    · rw [List.getElem?_eq_none (by omega)] at hk; cases hk
  rw [h.cellAt k (by omega)]
  simp [intsV, hk]
end Go.Proofs.YtidilfakganooaaDoor
end

section
namespace Go.Proofs.YtidilfakganooaaDoor
open Go.ChangeShapes Go.WideShapes Go.ChangeAt Go.RowKit
set_option linter.unusedVariables false

/-- The slice's n elements are the numbers of L, in a block below B. -/
def IntAt (w : World) (B : Nat) (A : Option Addr) (n : Nat) (L : List Int) : Prop :=
  L.length = n ∧ (0 < n → ∃ b off, A = some ⟨b, off, none⟩ ∧ b < B ∧ ∀ (k : Nat) (x : Int), L[k]? = some x → w.cell? ⟨b, off + k, none⟩ = some (.int .i64 x))
section
variable {w w' : World} {B B' n : Nat} {A : Option Addr} {L : List Int}
theorem IntAt.keep (h : IntAt w B A n L) (hk : ∀ p : Addr, p.block < B → w'.cell? p = w.cell? p) : IntAt w' B A n L := ⟨h.1, fun hn => by
  obtain ⟨b, off, hA, hb, hc⟩ := h.2 hn
  exact ⟨b, off, hA, hb, fun k x hx => (hk _ hb).trans (hc k x hx)⟩⟩
theorem IntAt.more (h : IntAt w B A n L) (hB : B ≤ B') : IntAt w B' A n L := ⟨h.1, fun hn => by
  obtain ⟨b, off, hA, hb, hc⟩ := h.2 hn
  exact ⟨b, off, hA, by omega, hc⟩⟩
theorem IntAt.grown {row : Option Nat} (h : IntAt w B A n L) (hB : B ≤ w.heap.size) (hg : w.grownBy w' row) (hr : ∀ k, row = some k → B ≤ k) : IntAt w' B A n L :=
  h.keep fun p hp => World.cell?_of_block (hg.block p.block (by omega) (fun e => by have := hr _ e.symm; omega))
theorem IntAt.none (h : IntAt w B A n L) (hB : B ≤ w.heap.size) (hg : w.grownBy w' none) : IntAt w' B A n L := h.grown hB hg (fun k e => by cases e)
theorem IntAt.below (h : IntAt w B A n L) (hb : Below B w w') : IntAt w' B A n L := h.keep fun p hp => World.cell?_of_block (hb.block p.block hp)
theorem IntAt.nil (w : World) (B : Nat) (A : Option Addr) : IntAt w B A 0 [] := ⟨rfl, fun h => by omega⟩
/-- One element. -/
theorem IntAt.at (h : IntAt w B A n L) (k : Nat) (hk : k < n) : ∃ b off, A = some ⟨b, off, Option.none⟩ ∧ b < B ∧ w.cell? ⟨b, off + k, Option.none⟩ = some (.int .i64 (L.getD k 0)) := by
  obtain ⟨b, off, hA, hb, hc⟩ := h.2 (by omega)
  have hl := h.1
  exact ⟨b, off, hA, hb, hc k _ (by rw [List.getD_eq_getElem?_getD, List.getElem?_eq_getElem (by omega)]; rfl)⟩
end
theorem alloc_size (w : World) (o : Obj) : (w.alloc o).heap.size = w.heap.size + 1 := by simp
theorem own_less {w : World} {b1 b2 : Nat} {e : TypeId} {size n : Nat} {v : Value} {xs : List Value} (h : w.ownsRow b2 e size v n xs) (hb : b1 ≤ b2) : w.ownsRow b1 e size v n xs :=
  ⟨h.1, h.2.imp id fun ⟨g, cap, cur, e1, e2, rest⟩ => ⟨g, cap, cur, e1, Nat.le_trans hb e2, rest⟩⟩

/-- A row of the call's own, read. -/
theorem intAt_own {w : World} {base n B cap : Nat} {A : Option Addr} {L : List Int} (h : w.ownsRow base 3 1 (.slice A n cap) n (intsV L)) (hl : L.length = n) (hB : w.heap.size ≤ B) : IntAt w B A n L :=
  ⟨hl, fun hn => by
    obtain ⟨A', cap', hv, ha⟩ := own_form h
    obtain ⟨g, hg⟩ := ha hn
    obtain ⟨rfl, rfl⟩ : A = A' ∧ cap = cap' := by injection hv with h1 h2 h3; exact ⟨h1, h3⟩
    subst hg
    exact ⟨g, 0, rfl, by have := (h.lt g rfl).2; omega, fun k x hx => by rw [Nat.zero_add]; exact ints_cell h k x hx hl⟩⟩
theorem own_ints_length {w : World} {base n : Nat} {v : Value} {L : List Int} (h : w.ownsRow base 3 1 v n (intsV L)) : L.length = n := by
  have := h.1
  rw [intsV_length] at this
  omega
theorem intsV_set (l : List Int) (j : Nat) (x : Int) : (intsV l).set j (.int .i64 x) = intsV (l.set j x) := by simp [intsV, List.map_set]
theorem madeInts (n : Nat) : (madeCells (Value.int .i64 0).cells n).toList = intsV (List.replicate n 0) := by
  show (madeCells #[Value.int .i64 0] n).toList = _
  rw [toList_madeCells_one]
  simp [intsV]

end Go.Proofs.YtidilfakganooaaDoor
end

section
namespace Go.Proofs.YtidilfakganooaaDoor
open Go.ChangeShapes Go.WideShapes Go.ChangeAt Go.RowKit
set_option linter.unusedVariables false

def nextG (W H n p : Int) : Int :=
  if hasG W H n then
    if p = 0 then atG W H (n % W) (n / W - 1)
    else if p = 1 then atG W H (n % W + 1) (n / W)
    else if p = 2 then atG W H (n % W) (n / W + 1)
    else if p = 3 then atG W H (n % W - 1) (n / W)
    else if p = 4 then n else -1
  else -1
def oppG (p : Int) : Int := if p = 0 then 2 else if p = 1 then 3 else if p = 2 then 0 else if p = 3 then 1 else if p = 4 then 4 else -1
def leadsG (W H c : Int) : Bool := decide (0 ≤ c ∧ c < 4 * countG W H ∧ 0 ≤ nextG W H (c / 4) (c % 4))
/-- Element i of the broken channels leads somewhere and is greater than the one before. -/
def goodAt (W H : Int) (L : List Int) (i : Nat) : Bool := leadsG W H (L.getD i 0) && (decide (i = 0) || decide (L.getD (i - 1) 0 < L.getD i 0))
def meshG (W H : Int) (L : List Int) : Bool := okG W H && (List.range L.length).all (goodAt W H L)
def inG (L : List Int) (c : Int) : Bool := L.contains c
def hasChG (W H : Int) (L : List Int) (c : Int) : Bool := leadsG W H c && !inG L c
def hasChannelG (W H : Int) (L : List Int) (c : Int) : Bool := meshG W H L && hasChG W H L c
/-- The channels below k. -/
def chansTo (W H : Int) (L : List Int) (k : Nat) : List Int := ((List.range k).map fun c : Nat => (c : Int)).filter (hasChG W H L)
def chansG (W H : Int) (L : List Int) : List Int := if meshG W H L then chansTo W H L (4 * countG W H).toNat else []
def portB (p : Int) : ByteArray := if p = 0 then ⟨#[110, 111, 114, 116, 104]⟩ else if p = 1 then ⟨#[101, 97, 115, 116]⟩ else if p = 2 then ⟨#[115, 111, 117, 116, 104]⟩ else if p = 3 then ⟨#[119, 101, 115, 116]⟩ else if p = 4 then ⟨#[108, 111, 99, 97, 108]⟩ else ⟨#[]⟩

theorem atG_le (W H x y : Int) : -1 ≤ atG W H x y ∧ atG W H x y ≤ 15 := by
  unfold atG
  split
  · rename_i h
    obtain ⟨hok, h0, h1, h2, h3⟩ := h
    obtain ⟨hW, hH⟩ := okG_cases hok
    rcases hW with rfl | rfl | rfl | rfl <;> rcases hH with rfl | rfl | rfl | rfl <;> omega
  · omega
theorem nextG_le (W H n p : Int) : -1 ≤ nextG W H n p ∧ nextG W H n p ≤ 15 := by
  unfold nextG
  split
  · rename_i h
    have := hasG_le h
    repeat' split
    all_goals first | exact atG_le _ _ _ _ | omega
  · omega
theorem nextG_has {W H n p : Int} (h : ¬ 0 ≤ p ∨ ¬ p ≤ 4) : nextG W H n p = -1 := by
  unfold nextG
  split
  · rw [if_neg (by omega), if_neg (by omega), if_neg (by omega), if_neg (by omega), if_neg (by omega)]
  · rfl

theorem chansTo_zero (W H : Int) (L : List Int) : chansTo W H L 0 = [] := rfl
theorem chansTo_yes {W H : Int} {L : List Int} {k : Nat} (h : hasChG W H L (k : Int) = true) : chansTo W H L (k + 1) = chansTo W H L k ++ [(k : Int)] := by
  unfold chansTo
  rw [List.range_succ, List.map_append, List.filter_append]
  simp [h]
theorem chansTo_no {W H : Int} {L : List Int} {k : Nat} (h : hasChG W H L (k : Int) = false) : chansTo W H L (k + 1) = chansTo W H L k := by
  unfold chansTo
  rw [List.range_succ, List.map_append, List.filter_append]
  simp [h]
theorem chansTo_le (W H : Int) (L : List Int) (k : Nat) : (chansTo W H L k).length ≤ k := by
  unfold chansTo
  refine Nat.le_trans (List.length_filter_le _ _) ?_
  simp

theorem chansG_le (W H : Int) (L : List Int) : (chansG W H L).length ≤ 64 := by
  unfold chansG
  split
  · have h1 := chansTo_le W H L (4 * countG W H).toNat
    have h2 := countG_le W H
    omega
  · simp
/-- The broken channels up to i are good; a bad one makes the mesh not valid. -/
def goodTo (W H : Int) (L : List Int) (i : Nat) : Prop := ∀ j, j < i → goodAt W H L j = true
theorem goodTo_zero (W H : Int) (L : List Int) : goodTo W H L 0 := fun j h => by omega
theorem goodTo_succ {W H : Int} {L : List Int} {i : Nat} (h : goodTo W H L i) (hi : goodAt W H L i = true) : goodTo W H L (i + 1) := fun j hj => by
  rcases Nat.lt_succ_iff_lt_or_eq.1 hj with h1 | rfl
  · exact h j h1
  · exact hi
theorem meshG_yes {W H : Int} {L : List Int} (hok : okG W H = true) (h : goodTo W H L L.length) : meshG W H L = true := by
  simp only [meshG, hok, Bool.true_and, List.all_eq_true]
  intro i hi
  exact h i (List.mem_range.1 hi)
theorem meshG_no {W H : Int} {L : List Int} {i : Nat} (hi : i < L.length) (h : goodAt W H L i = false) : meshG W H L = false := by
  rw [meshG]
  cases hok : okG W H with
  | false => rfl
  | true =>
    rw [Bool.true_and, List.all_eq_false]
    exact ⟨i, List.mem_range.2 hi, by rw [h]; decide⟩
theorem meshG_bad {W H : Int} {L : List Int} (h : okG W H = false) : meshG W H L = false := by simp [meshG, h]
theorem meshG_ok {W H : Int} {L : List Int} (h : meshG W H L = true) : okG W H = true ∧ goodTo W H L L.length := by
  simp only [meshG, Bool.and_eq_true, List.all_eq_true] at h
  exact ⟨h.1, fun j hj => h.2 j (List.mem_range.2 hj)⟩
theorem inG_no {L : List Int} {c : Int} (h : ∀ j, j < L.length → L.getD j 0 ≠ c) : inG L c = false := by
  unfold inG
  rw [List.contains_eq_any_beq, List.any_eq_false]
  intro x hx
  obtain ⟨j, hj, rfl⟩ := List.getElem_of_mem hx
  have := h j hj
  rw [List.getD_eq_getElem?_getD, List.getElem?_eq_getElem hj] at this
  simp only [Option.getD_some] at this
  simpa using fun e => this e.symm
theorem inG_yes {L : List Int} {c : Int} {j : Nat} (hj : j < L.length) (h : L.getD j 0 = c) : inG L c = true := by
  unfold inG
  rw [List.getD_eq_getElem?_getD, List.getElem?_eq_getElem hj] at h
  simp only [Option.getD_some] at h
  rw [List.contains_iff_mem, ← h]
  exact List.getElem_mem hj
theorem goodAt_lead {W H : Int} {L : List Int} {i : Nat} {x : Int} (hx : L.getD i 0 = x) (h : leadsG W H x = false) : goodAt W H L i = false := by simp only [goodAt, hx, h, Bool.false_and]
theorem goodAt_first {W H : Int} {L : List Int} {x : Int} (hx : L.getD 0 0 = x) (h : leadsG W H x = true) : goodAt W H L 0 = true := by
  simp only [goodAt, hx, h, decide_true, Bool.true_or, Bool.and_self]
theorem goodAt_next {W H : Int} {L : List Int} {j : Nat} {x y : Int} (hx : L.getD (j + 1) 0 = x) (hy : L.getD j 0 = y) (h : leadsG W H x = true) : goodAt W H L (j + 1) = decide (y < x) := by
  simp only [goodAt, Nat.add_sub_cancel, hx, hy, h, Bool.true_and]
  simp
end Go.Proofs.YtidilfakganooaaDoor
end

section
namespace Go.Proofs.YtidilfakganooaaDoor
open Go.ChangeShapes Go.WideShapes Go.ChangeAt Go.RowKit
set_option linter.unusedVariables false
set_option linter.unusedSimpArgs false

theorem lawsHas (A : Option Addr) (n cap B : Nat) (L : List Int) (c : Int) (w : World) (h : IntAt w B A n L) (hn : n ≤ 1000000000) :
    Calls Tryd.prog 10 #[.slice A n cap, .int .i64 c] w fun e w' => e = .returned (.bool (inG L c)) ∧ w = w' := by
  have hl := h.1
  have HI := Lib.hid h
  clear h
  go_enter Tryd.func10, Tryd.ntmps10
  go_wp2_with fail
  go_loop [5] (fun i => ∃ k : Nat, i = .int .i64 (k : Int) ∧ k ≤ n ∧ ∀ j, j < k → L.getD j 0 ≠ c) (fun i => n - (intOf i).toNat)
  case atStart => exact ⟨0, rfl, Nat.zero_le _, fun j h => by omega⟩
  case round =>
    obtain ⟨k, rfl, hk, hne⟩ := hrel
    have HNE := Lib.hid hne
    clear hne
    by_cases hlt : k < n
    · obtain ⟨b, off, rfl, hb, hc⟩ := HI.out.at k hlt
      obtain ⟨x, hx⟩ : ∃ x, L.getD k 0 = x := ⟨_, rfl⟩
      rw [hx] at hc
      have HX := Lib.hid hx
      clear hx
      by_cases hxc : x = c
      · subst hxc
        go_wp2_with fail
        go_ret
        exact ⟨ret_bool (inG_yes (by omega) HX.out).symm, rfl⟩
      · have hxb : (x == c) = false := by simpa using hxc
        have HXC := Lib.hid hxc
        clear hxc
        go_wp2_with fail
        go_round
        case rel => exact ⟨k + 1, by go_num, by omega, fun j hj => by
          rcases Nat.lt_succ_iff_lt_or_eq.1 hj with h1 | rfl
          · exact HNE.out j h1
          · rw [HX.out]; exact HXC.out⟩
        case measure => simp [intOf]; omega
    · obtain rfl : k = n := by omega
      go_wp2_with fail
      go_ret
      exact ⟨ret_bool (inG_no (fun j hj => HNE.out j (by omega))).symm, rfl⟩
theorem lawsHasV (A : Option Addr) (n cap B : Nat) (L : List Int) (c : Int) (b : Bool) (hb : inG L c = b) (w : World) (h : IntAt w B A n L) (hn : n ≤ 1000000000) :
    Calls Tryd.prog 10 #[.slice A n cap, .int .i64 c] w fun e w' => e = .returned (.bool b) ∧ w = w' := hb ▸ lawsHas A n cap B L c w h hn
end Go.Proofs.YtidilfakganooaaDoor
end

section
namespace Go.Proofs.YtidilfakganooaaDoor
open Go.ChangeShapes Go.WideShapes Go.ChangeAt Go.RowKit
set_option linter.unusedVariables false

theorem next_has {W H n p : Int} (h : 0 ≤ nextG W H n p) : hasG W H (nextG W H n p) = true := by
  have hat : ∀ x y, 0 ≤ atG W H x y → hasG W H (atG W H x y) = true := fun x y h => by
    unfold atG at h ⊢
    split at h
    · rename_i hc
      obtain ⟨hok, h0, h1, h2, h3⟩ := hc
      rw [if_pos ⟨hok, h0, h1, h2, h3⟩, hasG_iff]
      have hk : countG W H = W * H := by simp [countG, hok]
      obtain ⟨hW, hH⟩ := okG_cases hok
      rw [hk]
      rcases hW with rfl | rfl | rfl | rfl <;> rcases hH with rfl | rfl | rfl | rfl <;> omega
    · omega
  unfold nextG at h ⊢
  split at h
  · rename_i hh
    rw [if_pos hh]
    repeat' split at h
    all_goals first | omega | (simp [*] at *; done) | skip
  · omega
/-- The entry of a table of k nodes. -/
def tabG (k : Int) (P : List Int) (node to : Int) : Int := P.getD (node * k + to).toNat 0
def sizedG (W H : Int) (L P : List Int) : Bool := meshG W H L && decide ((P.length : Int) = countG W H * countG W H)
def askG (W H : Int) (L P : List Int) (node to : Int) : Bool := sizedG W H L P && hasG W H node && hasG W H to
def portAtG (W H : Int) (L P : List Int) (node to : Int) : Int :=
  if askG W H L P node to = true ∧ 0 ≤ tabG (countG W H) P node to ∧ tabG (countG W H) P node to ≤ 4 then tabG (countG W H) P node to else -1
/-- One step of a walk: the port leads through a channel that exists. -/
def stepsG (W H : Int) (L : List Int) (at' p : Int) : Bool := decide (0 ≤ p ∧ p ≤ 3) && hasChG W H L (4 * at' + p)
def walkF (W H : Int) (L P : List Int) (to : Int) : Nat → Int → Option (List Int)
  | 0, _ => none
  | f + 1, a =>
    if tabG (countG W H) P a to = 4 then (if a = to then some [] else none)
    else if stepsG W H L a (tabG (countG W H) P a to) then
      (walkF W H L P to f (nextG W H a (tabG (countG W H) P a to))).map ((4 * a + tabG (countG W H) P a to) :: ·)
    else none
def walkOf (W H : Int) (L P : List Int) (a b : Int) : List Int := (walkF W H L P b ((countG W H).toNat + 1) a).getD []
def walkG (W H : Int) (L P : List Int) (a b : Int) : List Int := if askG W H L P a b = true ∧ a ≠ b then walkOf W H L P a b else []
/-- Entry i of the square of nodes is in order. -/
def entryG (W H : Int) (L P : List Int) (a b : Int) : Bool :=
  if a = b then decide (tabG (countG W H) P a a = 4) else !(walkOf W H L P a b).isEmpty
def tableG (W H : Int) (L P : List Int) : Bool :=
  sizedG W H L P && (List.range (countG W H).toNat).all fun a => (List.range (countG W H).toNat).all fun b => entryG W H L P (a : Int) (b : Int)
/-- The number of channels of the walk of pair i. -/
def lenAt (W H : Int) (L P : List Int) (i : Nat) : Nat := (walkOf W H L P ((i : Int) / countG W H) ((i : Int) % countG W H)).length
def mostTo (W H : Int) (L P : List Int) : Nat → Nat
  | 0 => 0
  | k + 1 => max (mostTo W H L P k) (lenAt W H L P k)
def sqG (W H : Int) : Nat := (countG W H).toNat * (countG W H).toNat
def longG (W H : Int) (L P : List Int) : Int := if tableG W H L P then (mostTo W H L P (sqG W H) : Int) else -1
def minAt (W H : Int) (L P : List Int) (i : Nat) : Bool := decide ((lenAt W H L P i : Int) = distG W H ((i : Int) / countG W H) ((i : Int) % countG W H))
def minimalG (W H : Int) (L P : List Int) : Bool := tableG W H L P && (List.range (sqG W H)).all (minAt W H L P)

section
variable {W H : Int} {L P : List Int}
theorem sizedG_mesh (h : sizedG W H L P = true) : meshG W H L = true ∧ (P.length : Int) = countG W H * countG W H := by
  simpa [sizedG] using h
theorem askG_all {a b : Int} (h : askG W H L P a b = true) : sizedG W H L P = true ∧ hasG W H a = true ∧ hasG W H b = true := by
  simp only [askG, Bool.and_eq_true] at h; exact ⟨h.1.1, h.1.2, h.2⟩
/-- The place of an entry. -/
theorem tab_at {k a b : Int} {n : Nat} (h : (n : Int) = k * k) (ha0 : 0 ≤ a) (ha1 : a < k) (hb0 : 0 ≤ b) (hb1 : b < k) : 0 ≤ a * k + b ∧ a * k + b < n := by
  have h1 : 0 ≤ a * k := Int.mul_nonneg ha0 (by omega)
  have h2 : a * k ≤ (k - 1) * k := Int.mul_le_mul_of_nonneg_right (by omega) (by omega)
  have h3 : (k - 1) * k = k * k - k := by rw [Int.sub_mul, Int.one_mul]
  omega

theorem walkF_end {to a : Int} {f : Nat} (h : tabG (countG W H) P a to = 4) (he : a = to) : walkF W H L P to (f + 1) a = some [] := by subst he; simp [walkF, h]
theorem walkF_lost {to a : Int} {f : Nat} (h : tabG (countG W H) P a to = 4) (he : a ≠ to) : walkF W H L P to (f + 1) a = none := by simp [walkF, h, he]
theorem walkF_bad {to a p : Int} {f : Nat} (h : tabG (countG W H) P a to = p) (h4 : p ≠ 4) (hs : stepsG W H L a p = false) : walkF W H L P to (f + 1) a = none := by
  subst h; simp [walkF, h4, hs]
theorem walkF_go {to a p : Int} {f : Nat} (h : tabG (countG W H) P a to = p) (h4 : p ≠ 4) (hs : stepsG W H L a p = true) : walkF W H L P to (f + 1) a = (walkF W H L P to f (nextG W H a p)).map ((4 * a + p) :: ·) := by
  subst h; simp [walkF, h4, hs]
/-- A walk of which the first channels are known. -/
def restG (W H : Int) (L P : List Int) (to : Int) (acc : List Int) (f : Nat) (a : Int) : List Int := ((walkF W H L P to f a).map (acc ++ ·)).getD []
theorem rest_start (a b : Int) : restG W H L P b [] ((countG W H).toNat + 1) a = walkOf W H L P a b := by
  unfold restG walkOf
  cases walkF W H L P b ((countG W H).toNat + 1) a <;> simp
theorem rest_zero (to a : Int) (acc : List Int) : restG W H L P to acc 0 a = [] := rfl
theorem rest_end {to a : Int} {f : Nat} {acc : List Int} (h : tabG (countG W H) P a to = 4) (he : a = to) : restG W H L P to acc (f + 1) a = acc := by simp [restG, walkF_end h he]
theorem rest_lost {to a : Int} {f : Nat} {acc : List Int} (h : tabG (countG W H) P a to = 4) (he : a ≠ to) : restG W H L P to acc (f + 1) a = [] := by simp [restG, walkF_lost h he]
theorem rest_bad {to a p : Int} {f : Nat} {acc : List Int} (h : tabG (countG W H) P a to = p) (h4 : p ≠ 4) (hs : stepsG W H L a p = false) : restG W H L P to acc (f + 1) a = [] := by simp [restG, walkF_bad h h4 hs]
theorem rest_go {to a p : Int} {f : Nat} {acc : List Int} (h : tabG (countG W H) P a to = p) (h4 : p ≠ 4) (hs : stepsG W H L a p = true) : restG W H L P to acc (f + 1) a = restG W H L P to (acc ++ [4 * a + p]) f (nextG W H a p) := by
  simp only [restG, walkF_go h h4 hs, Option.map_map]
  congr 2
  funext x
  simp
theorem steps_next {a p : Int} (h : stepsG W H L a p = true) : 0 ≤ p ∧ p ≤ 3 ∧ hasChG W H L (4 * a + p) = true := by
  simp only [stepsG, Bool.and_eq_true, decide_eq_true_eq] at h; exact ⟨h.1.1, h.1.2, h.2⟩
theorem step_has {a p : Int} (h : stepsG W H L a p = true) : hasG W H (nextG W H a p) = true := by
  obtain ⟨h0, h3, hc⟩ := steps_next h
  simp only [hasChG, Bool.and_eq_true] at hc
  have h1 : 0 ≤ 4 * a + p ∧ 4 * a + p < 4 * countG W H ∧ 0 ≤ nextG W H ((4 * a + p) / 4) ((4 * a + p) % 4) := by simpa [leadsG] using hc.1
  have e1 : (4 * a + p) / 4 = a := by omega
  have e2 : (4 * a + p) % 4 = p := by omega
  rw [e1, e2] at h1
  exact next_has h1.2.2
theorem walkF_len {to : Int} : ∀ (f : Nat) (a : Int) (l : List Int), walkF W H L P to f a = some l → l.length < f
  | 0, _, _, h => by simp [walkF] at h
  | f + 1, a, l, h => by
    rw [walkF] at h
    split at h
    · split at h
      · cases h; simp
      · cases h
    · split at h
      · rw [Option.map_eq_some_iff] at h
        obtain ⟨m, hm, rfl⟩ := h
        have := walkF_len f _ m hm
        simp; omega
      · cases h
theorem walkOf_len (a b : Int) : (walkOf W H L P a b).length ≤ 16 := by
  unfold walkOf
  have hc := countG_le W H
  cases h : walkF W H L P b ((countG W H).toNat + 1) a with
  | none => simp
  | some l => have := walkF_len _ _ _ h; simp; omega

/-- The pairs of nodes up to i are in order. -/
def pairsTo (W H : Int) (L P : List Int) (a b : Nat) : Prop :=
  (∀ x y : Nat, x < a → (y : Int) < countG W H → entryG W H L P x y = true) ∧ ∀ y : Nat, y < b → entryG W H L P a y = true
theorem pairs_zero : pairsTo W H L P 0 0 := ⟨fun _ _ h => by omega, fun _ h => by omega⟩
theorem pairs_next {a b : Nat} (h : pairsTo W H L P a b) (he : entryG W H L P a b = true) : pairsTo W H L P a (b + 1) :=
  ⟨h.1, fun y hy => by
    rcases Nat.lt_succ_iff_lt_or_eq.1 hy with h1 | rfl
    · exact h.2 y h1
    · exact he⟩
theorem pairs_row {a b : Nat} (h : pairsTo W H L P a b) (hb : (b : Int) = countG W H) : pairsTo W H L P (a + 1) 0 :=
  ⟨fun x y hx hy => by
    rcases Nat.lt_succ_iff_lt_or_eq.1 hx with h1 | rfl
    · exact h.1 x y h1 hy
    · exact h.2 y (by omega), fun _ h => by omega⟩
theorem tableG_yes {a b : Nat} (hs : sizedG W H L P = true) (h : pairsTo W H L P a b) (ha : (a : Int) = countG W H) : tableG W H L P = true := by
  simp only [tableG, hs, Bool.true_and, List.all_eq_true, List.mem_range]
  intro x hx y hy
  exact h.1 x y (by omega) (by omega)
theorem tableG_no {a b : Nat} (ha : (a : Int) < countG W H) (hb : (b : Int) < countG W H) (h : entryG W H L P a b = false) : tableG W H L P = false := by
  cases ht : tableG W H L P with
  | false => rfl
  | true =>
    simp only [tableG, Bool.and_eq_true, List.all_eq_true, List.mem_range] at ht
    have := ht.2 a (by omega) b (by omega)
    rw [h] at this
    cases this
theorem tableG_unsized (h : sizedG W H L P = false) : tableG W H L P = false := by simp [tableG, h]
theorem tableG_sized (h : tableG W H L P = true) : sizedG W H L P = true := by simp only [tableG, Bool.and_eq_true] at h; exact h.1
theorem tableG_entry {a b : Int} (h : tableG W H L P = true) (ha : hasG W H a = true) (hb : hasG W H b = true) : entryG W H L P a b = true := by
  simp only [tableG, Bool.and_eq_true, List.all_eq_true, List.mem_range] at h
  have h1 := hasG_iff.1 ha
  have h2 := hasG_iff.1 hb
  have := h.2 a.toNat (by omega) b.toNat (by omega)
  rwa [Int.toNat_of_nonneg h1.1, Int.toNat_of_nonneg h2.1] at this
theorem entry_same {a : Int} : entryG W H L P a a = decide (tabG (countG W H) P a a = 4) := by simp [entryG]
theorem entry_two {a b : Int} (h : a ≠ b) : entryG W H L P a b = !(walkOf W H L P a b).isEmpty := by simp [entryG, h]

theorem mostTo_le {i k : Nat} (h : i < k) : lenAt W H L P i ≤ mostTo W H L P k := by
  induction k with
  | zero => omega
  | succ k ih =>
    rw [mostTo]
    rcases Nat.lt_succ_iff_lt_or_eq.1 h with h1 | rfl
    · exact Nat.le_trans (ih h1) (Nat.le_max_left _ _)
    · exact Nat.le_max_right _ _
theorem mostTo_16 (k : Nat) : mostTo W H L P k ≤ 16 := by
  induction k with
  | zero => simp [mostTo]
  | succ k ih => rw [mostTo]; have := walkOf_len (W := W) (H := H) (L := L) (P := P) ((k : Int) / countG W H) ((k : Int) % countG W H); unfold lenAt; omega
/-- Pair i of the square is two nodes. -/
theorem pair_at {i : Nat} (h : i < sqG W H) : hasG W H ((i : Int) / countG W H) = true ∧ hasG W H ((i : Int) % countG W H) = true := by
  have hc := countG_le W H
  unfold sqG at h
  have hk : 0 < countG W H := by
    rcases Int.lt_or_le 0 (countG W H) with h1 | h1
    · exact h1
    · have : (countG W H).toNat = 0 := by omega
      rw [this] at h; omega
  have e : (i : Int) < countG W H * countG W H := by
    have : ((countG W H).toNat : Int) = countG W H := Int.toNat_of_nonneg hc.1
    rw [← this]; exact_mod_cast h
  exact ⟨hasG_iff.2 ⟨Int.ediv_nonneg (by omega) hc.1, Int.ediv_lt_of_lt_mul hk e⟩, hasG_iff.2 ⟨Int.emod_nonneg _ (by omega), Int.emod_lt_of_pos _ hk⟩⟩
theorem sq_int (W H : Int) : (sqG W H : Int) = countG W H * countG W H := by
  have := countG_le W H
  unfold sqG
  rw [Int.natCast_mul, Int.toNat_of_nonneg this.1]
theorem sq_le (W H : Int) : sqG W H ≤ 256 := by
  have h := countG_le W H
  have : (countG W H).toNat ≤ 16 := by omega
  exact Nat.mul_le_mul this this
theorem walk_le {a b : Int} (ha : hasG W H a = true) (hb : hasG W H b = true) : (walkOf W H L P a b).length ≤ mostTo W H L P (sqG W H) := by
  have h1 := hasG_iff.1 ha
  have h2 := hasG_iff.1 hb
  have h3 := tab_at (k := countG W H) (n := sqG W H) (sq_int W H) h1.1 h1.2 h2.1 h2.2
  have e1 : (((a * countG W H + b).toNat : Nat) : Int) = a * countG W H + b := Int.toNat_of_nonneg h3.1
  have e2 : (a * countG W H + b) / countG W H = a := by
    rw [Int.add_comm, Int.add_mul_ediv_right _ _ (by omega), Int.ediv_eq_zero_of_lt h2.1 h2.2]; omega
  have e3 : (a * countG W H + b) % countG W H = b := by
    rw [Int.add_comm, Int.add_mul_emod_self_right]; exact Int.emod_eq_of_lt h2.1 h2.2
  have := mostTo_le (W := W) (H := H) (L := L) (P := P) (i := (a * countG W H + b).toNat) (k := sqG W H) (by omega)
  unfold lenAt at this
  rwa [e1, e2, e3] at this
/-- The first k pairs are minimal. -/
def minTo (W H : Int) (L P : List Int) (k : Nat) : Prop := ∀ i, i < k → minAt W H L P i = true
theorem minTo_zero : minTo W H L P 0 := fun _ h => by omega
theorem minTo_succ {k : Nat} (h : minTo W H L P k) (hk : minAt W H L P k = true) : minTo W H L P (k + 1) := fun i hi => by
  rcases Nat.lt_succ_iff_lt_or_eq.1 hi with h1 | rfl
  · exact h i h1
  · exact hk
theorem minimalG_yes (ht : tableG W H L P = true) (h : minTo W H L P (sqG W H)) : minimalG W H L P = true := by
  simp only [minimalG, ht, Bool.true_and, List.all_eq_true, List.mem_range]; exact h
theorem minimalG_no {i : Nat} (hi : i < sqG W H) (h : minAt W H L P i = false) : minimalG W H L P = false := by
  cases hm : minimalG W H L P with
  | false => rfl
  | true =>
    simp only [minimalG, Bool.and_eq_true, List.all_eq_true, List.mem_range] at hm
    have := hm.2 i hi
    rw [h] at this
    cases this
theorem minimalG_bad (h : tableG W H L P = false) : minimalG W H L P = false := by simp [minimalG, h]
end
end Go.Proofs.YtidilfakganooaaDoor
end

section
namespace Go.Proofs.YtidilfakganooaaDoor
open Go.ChangeShapes Go.WideShapes Go.ChangeAt Go.RowKit
set_option linter.unusedVariables false

def colPort (x u : Int) : Int := if u < x then 3 else 1
def rowPort (y v : Int) : Int := if v < y then 0 else 2
def mixRule (r b : Int) : Int := if r = 4 then 1 + b % 2 else r
/-- Does the rule take the column first? -/
def firstG (r x y u v : Int) : Bool := if r = 2 then decide (y = v) else if r = 3 then decide (u < x) || decide (y = v) else decide (x ≠ u)
def stdPort (W r a b : Int) : Int :=
  if a = b then 4 else if firstG (mixRule r b) (a % W) (a / W) (b % W) (b / W) then colPort (a % W) (b % W) else rowPort (a / W) (b / W)
def stdTo (W H r : Int) (k : Nat) : List Int := (List.range k).map fun i : Nat => stdPort W r ((i : Int) / countG W H) ((i : Int) % countG W H)
def stdTab (W H r : Int) : List Int := stdTo W H r (sqG W H)
def stdGood (W H r : Int) : Bool := minimalG W H [] (stdTab W H r) && decide ((mostTo W H [] (stdTab W H r) (sqG W H) : Int) = diamG W H)

theorem std_111 : stdGood 1 1 1 = true := by decide +kernel
theorem std_112 : stdGood 1 1 2 = true := by decide +kernel
theorem std_113 : stdGood 1 1 3 = true := by decide +kernel
theorem std_114 : stdGood 1 1 4 = true := by decide +kernel
theorem std_121 : stdGood 1 2 1 = true := by decide +kernel
theorem std_122 : stdGood 1 2 2 = true := by decide +kernel
theorem std_123 : stdGood 1 2 3 = true := by decide +kernel
theorem std_124 : stdGood 1 2 4 = true := by decide +kernel
theorem std_131 : stdGood 1 3 1 = true := by decide +kernel
theorem std_132 : stdGood 1 3 2 = true := by decide +kernel
theorem std_133 : stdGood 1 3 3 = true := by decide +kernel
theorem std_134 : stdGood 1 3 4 = true := by decide +kernel
theorem std_141 : stdGood 1 4 1 = true := by decide +kernel
theorem std_142 : stdGood 1 4 2 = true := by decide +kernel
theorem std_143 : stdGood 1 4 3 = true := by decide +kernel
theorem std_144 : stdGood 1 4 4 = true := by decide +kernel
theorem std_211 : stdGood 2 1 1 = true := by decide +kernel
theorem std_212 : stdGood 2 1 2 = true := by decide +kernel
theorem std_213 : stdGood 2 1 3 = true := by decide +kernel
theorem std_214 : stdGood 2 1 4 = true := by decide +kernel
theorem std_221 : stdGood 2 2 1 = true := by decide +kernel
theorem std_222 : stdGood 2 2 2 = true := by decide +kernel
theorem std_223 : stdGood 2 2 3 = true := by decide +kernel
theorem std_224 : stdGood 2 2 4 = true := by decide +kernel
theorem std_231 : stdGood 2 3 1 = true := by decide +kernel
theorem std_232 : stdGood 2 3 2 = true := by decide +kernel
theorem std_233 : stdGood 2 3 3 = true := by decide +kernel
theorem std_234 : stdGood 2 3 4 = true := by decide +kernel
theorem std_241 : stdGood 2 4 1 = true := by decide +kernel
theorem std_242 : stdGood 2 4 2 = true := by decide +kernel
theorem std_243 : stdGood 2 4 3 = true := by decide +kernel
theorem std_244 : stdGood 2 4 4 = true := by decide +kernel
theorem std_311 : stdGood 3 1 1 = true := by decide +kernel
theorem std_312 : stdGood 3 1 2 = true := by decide +kernel
theorem std_313 : stdGood 3 1 3 = true := by decide +kernel
theorem std_314 : stdGood 3 1 4 = true := by decide +kernel
theorem std_321 : stdGood 3 2 1 = true := by decide +kernel
theorem std_322 : stdGood 3 2 2 = true := by decide +kernel
theorem std_323 : stdGood 3 2 3 = true := by decide +kernel
theorem std_324 : stdGood 3 2 4 = true := by decide +kernel
theorem std_331 : stdGood 3 3 1 = true := by decide +kernel
theorem std_332 : stdGood 3 3 2 = true := by decide +kernel
theorem std_333 : stdGood 3 3 3 = true := by decide +kernel
theorem std_334 : stdGood 3 3 4 = true := by decide +kernel
theorem std_341 : stdGood 3 4 1 = true := by decide +kernel
theorem std_342 : stdGood 3 4 2 = true := by decide +kernel
theorem std_343 : stdGood 3 4 3 = true := by decide +kernel
theorem std_344 : stdGood 3 4 4 = true := by decide +kernel
theorem std_411 : stdGood 4 1 1 = true := by decide +kernel
theorem std_412 : stdGood 4 1 2 = true := by decide +kernel
theorem std_413 : stdGood 4 1 3 = true := by decide +kernel
theorem std_414 : stdGood 4 1 4 = true := by decide +kernel
theorem std_421 : stdGood 4 2 1 = true := by decide +kernel
theorem std_422 : stdGood 4 2 2 = true := by decide +kernel
theorem std_423 : stdGood 4 2 3 = true := by decide +kernel
theorem std_424 : stdGood 4 2 4 = true := by decide +kernel
theorem std_431 : stdGood 4 3 1 = true := by decide +kernel
theorem std_432 : stdGood 4 3 2 = true := by decide +kernel
theorem std_433 : stdGood 4 3 3 = true := by decide +kernel
theorem std_434 : stdGood 4 3 4 = true := by decide +kernel
theorem std_441 : stdGood 4 4 1 = true := by decide +kernel
theorem std_442 : stdGood 4 4 2 = true := by decide +kernel
theorem std_443 : stdGood 4 4 3 = true := by decide +kernel
theorem std_444 : stdGood 4 4 4 = true := by decide +kernel
theorem std_good {W H r : Int} (h : okG W H = true) (h1 : 1 ≤ r) (h4 : r ≤ 4) : stdGood W H r = true := by
  obtain ⟨hW, hH⟩ := okG_cases h
  have hr : r = 1 ∨ r = 2 ∨ r = 3 ∨ r = 4 := by omega
  clear h h1 h4
  rcases hW with rfl | rfl | rfl | rfl
  · rcases hH with rfl | rfl | rfl | rfl
    · rcases hr with rfl | rfl | rfl | rfl
      · exact std_111
      · exact std_112
      · exact std_113
      · exact std_114
    · rcases hr with rfl | rfl | rfl | rfl
      · exact std_121
      · exact std_122
      · exact std_123
      · exact std_124
    · rcases hr with rfl | rfl | rfl | rfl
      · exact std_131
      · exact std_132
      · exact std_133
      · exact std_134
    · rcases hr with rfl | rfl | rfl | rfl
      · exact std_141
      · exact std_142
      · exact std_143
      · exact std_144
  · rcases hH with rfl | rfl | rfl | rfl
    · rcases hr with rfl | rfl | rfl | rfl
      · exact std_211
      · exact std_212
      · exact std_213
      · exact std_214
    · rcases hr with rfl | rfl | rfl | rfl
      · exact std_221
      · exact std_222
      · exact std_223
      · exact std_224
    · rcases hr with rfl | rfl | rfl | rfl
      · exact std_231
      · exact std_232
      · exact std_233
      · exact std_234
    · rcases hr with rfl | rfl | rfl | rfl
      · exact std_241
      · exact std_242
      · exact std_243
      · exact std_244
  · rcases hH with rfl | rfl | rfl | rfl
    · rcases hr with rfl | rfl | rfl | rfl
      · exact std_311
      · exact std_312
      · exact std_313
      · exact std_314
    · rcases hr with rfl | rfl | rfl | rfl
      · exact std_321
      · exact std_322
      · exact std_323
      · exact std_324
    · rcases hr with rfl | rfl | rfl | rfl
      · exact std_331
      · exact std_332
      · exact std_333
      · exact std_334
    · rcases hr with rfl | rfl | rfl | rfl
      · exact std_341
      · exact std_342
      · exact std_343
      · exact std_344
  · rcases hH with rfl | rfl | rfl | rfl
    · rcases hr with rfl | rfl | rfl | rfl
      · exact std_411
      · exact std_412
      · exact std_413
      · exact std_414
    · rcases hr with rfl | rfl | rfl | rfl
      · exact std_421
      · exact std_422
      · exact std_423
      · exact std_424
    · rcases hr with rfl | rfl | rfl | rfl
      · exact std_431
      · exact std_432
      · exact std_433
      · exact std_434
    · rcases hr with rfl | rfl | rfl | rfl
      · exact std_441
      · exact std_442
      · exact std_443
      · exact std_444
theorem std_facts {W H r : Int} (h : okG W H = true) (h1 : 1 ≤ r) (h4 : r ≤ 4) : tableG W H [] (stdTab W H r) = true ∧ minimalG W H [] (stdTab W H r) = true ∧ longG W H [] (stdTab W H r) = diamG W H := by
  have hg := std_good h h1 h4
  simp only [stdGood, Bool.and_eq_true, decide_eq_true_eq] at hg
  have ht : tableG W H [] (stdTab W H r) = true := by have := hg.1; simp only [minimalG, Bool.and_eq_true] at this; exact this.1
  exact ⟨ht, hg.1, by rw [longG, if_pos ht]; exact hg.2⟩
theorem stdTo_succ (W H r : Int) (k : Nat) : stdTo W H r (k + 1) = stdTo W H r k ++ [stdPort W r ((k : Int) / countG W H) ((k : Int) % countG W H)] := by
  simp [stdTo, List.range_succ]
theorem stdTo_len (W H r : Int) (k : Nat) : (stdTo W H r k).length = k := by simp [stdTo]
theorem stdPort_le (W r a b : Int) : 0 ≤ stdPort W r a b ∧ stdPort W r a b ≤ 4 := by
  unfold stdPort colPort rowPort
  repeat' split
  all_goals omega
end Go.Proofs.YtidilfakganooaaDoor
end

section
namespace Go.Proofs.YtidilfakganooaaDoor
open Go.ChangeShapes Go.WideShapes Go.ChangeAt Go.RowKit
set_option linter.unusedVariables false
set_option linter.unusedSimpArgs false

def towardG (s g lo hi : Int) : Int := if g < s then lo else if g > s then hi else 4
def rowTo (W a b : Int) : Int := towardG (a % W) (b % W) 3 1
def colTo (W a b : Int) : Int := towardG (a / W) (b / W) 0 2
def xyG (W a b : Int) : Int := if rowTo W a b = 4 then colTo W a b else rowTo W a b
def yxG (W a b : Int) : Int := if colTo W a b = 4 then rowTo W a b else colTo W a b
def westG (W a b : Int) : Int := if rowTo W a b = 3 then 3 else yxG W a b
def mixG (W a b : Int) : Int := if b % 2 = 0 then xyG W a b else yxG W a b

theorem same_place {W H a b : Int} (ha : hasG W H a = true) (hb : hasG W H b = true) : a = b ↔ a % W = b % W ∧ a / W = b / W := by
  obtain ⟨_, _, _, _, ea⟩ := place_of ha
  obtain ⟨_, _, _, _, eb⟩ := place_of hb
  exact ⟨fun h => by subst h; exact ⟨rfl, rfl⟩, fun ⟨h1, h2⟩ => by rw [← ea, ← eb, h1, h2]⟩
theorem xy_first {x u y v : Int} : (if towardG x u 3 1 = 4 then towardG y v 0 2 else towardG x u 3 1) = if x = u ∧ y = v then 4 else if x ≠ u then colPort x u else rowPort y v := by
  simp only [towardG, colPort, rowPort]
  split <;> split <;> (try split) <;> (try split) <;> (try split) <;> omega
theorem yx_first {x u y v : Int} : (if towardG y v 0 2 = 4 then towardG x u 3 1 else towardG y v 0 2) = if x = u ∧ y = v then 4 else if y = v then colPort x u else rowPort y v := by
  simp only [towardG, colPort, rowPort]
  split <;> split <;> (try split) <;> (try split) <;> (try split) <;> omega
theorem xy_std {W H a b : Int} (ha : hasG W H a = true) (hb : hasG W H b = true) : xyG W a b = stdPort W 1 a b := by
  refine (xy_first (x := a % W) (u := b % W) (y := a / W) (v := b / W)).trans ?_
  have hp := same_place ha hb
  by_cases h : a = b
  · rw [if_pos (hp.1 h), stdPort, if_pos h]
  · rw [if_neg (fun e => h (hp.2 e)), stdPort, if_neg h]
    simp [firstG, mixRule]
theorem yx_std {W H a b : Int} (ha : hasG W H a = true) (hb : hasG W H b = true) : yxG W a b = stdPort W 2 a b := by
  refine (yx_first (x := a % W) (u := b % W) (y := a / W) (v := b / W)).trans ?_
  have hp := same_place ha hb
  by_cases h : a = b
  · rw [if_pos (hp.1 h), stdPort, if_pos h]
  · rw [if_neg (fun e => h (hp.2 e)), stdPort, if_neg h]
    simp [firstG, mixRule]
theorem west_first {x u y v : Int} : (if towardG x u 3 1 = 3 then 3 else if towardG y v 0 2 = 4 then towardG x u 3 1 else towardG y v 0 2) = if x = u ∧ y = v then 4 else if u < x ∨ y = v then colPort x u else rowPort y v := by
  simp only [towardG, colPort, rowPort]
  repeat' split
  all_goals omega
theorem west_std {W H a b : Int} (ha : hasG W H a = true) (hb : hasG W H b = true) : westG W a b = stdPort W 3 a b := by
  refine (west_first (x := a % W) (u := b % W) (y := a / W) (v := b / W)).trans ?_
  have hp := same_place ha hb
  by_cases h : a = b
  · rw [if_pos (hp.1 h), stdPort, if_pos h]
  · rw [if_neg (fun e => h (hp.2 e)), stdPort, if_neg h]
    simp [firstG, mixRule]
theorem mix_std {W H a b : Int} (ha : hasG W H a = true) (hb : hasG W H b = true) : mixG W a b = stdPort W 4 a b := by
  unfold mixG
  have h1 := xy_std ha hb
  have h2 := yx_std ha hb
  by_cases h : b % 2 = 0
  · rw [if_pos h, h1]
    simp [stdPort, mixRule, h]
  · rw [if_neg h, h2]
    have : b % 2 = 1 := by omega
    simp [stdPort, mixRule, this]
end Go.Proofs.YtidilfakganooaaDoor
end

section
namespace Go.Proofs.YtidilfakganooaaDoor
open Go.ChangeShapes Go.WideShapes Go.ChangeAt Go.RowKit
set_option linter.unusedVariables false

theorem boxi_blk {w w1 : World} {T : TypeId} {cs : Array Value} (h : (w.alloc (.cells cs T)).grownBy w1 none) : Blk w1 w.heap.size T cs := (Blk.new w T cs).grown h (by simp)
theorem boxi_gb {w w1 : World} {o : Obj} (h : (w.alloc o).grownBy w1 none) : w.grownBy w1 none := gb_trans (gb_alloc (gb_refl _ _) _) h

theorem implGridOk (W H : Int) (w : World) :
    Calls Tryd.prog 25 #[.agg #[.int .i64 W, .int .i64 H]] w (RetB (okG W H) w) := by
  by_cases h1 : W ≥ 1 <;> by_cases h2 : W ≤ 4 <;> by_cases h3 : H ≥ 1 <;> by_cases h4 : H ≤ 4
  all_goals first | (exfalso; omega) | skip
  all_goals
    go_enter Tryd.func25, Tryd.ntmps25
    go_wp2_with fail
    go_ret
    exact ⟨ret_bool (by simp [okG] <;> omega), gb_alloc (gb_refl _ _) _⟩

theorem implNodeCount (W H : Int) (w : World) :
    Calls Tryd.prog 26 #[.agg #[.int .i64 W, .int .i64 H]] w (RetI (countG W H) none w) := by
  cases hok : okG W H with
  | true =>
    obtain ⟨hW, hH⟩ := okG_cases hok
    have hm : wrap64 (W * H) = countG W H := by
      simp only [countG, hok, if_true]
      rcases hW with rfl | rfl | rfl | rfl <;> rcases hH with rfl | rfl | rfl | rfl <;> exact IntWalk.wrap64_in _ (by omega)
    have Hm := Lib.hid hm
    clear hW hH hm
    go_enter Tryd.func26, Tryd.ntmps26
    go_wp2_with fail
    refine (implGridOk W H _).mono ?_
    rintro e w1 ⟨rfl, hg⟩
    have hb := boxi_blk hg
    have c0 : w1.cell? ⟨w.heap.size, 0, none⟩ = some (.int .i64 W) := hb.cell 0
    have c1 : w1.cell? ⟨w.heap.size, 1, none⟩ = some (.int .i64 H) := hb.cell 1
    have Hg := Lib.hid hg
    clear hg hb
    rw [hok]
    go_wp2_with fail
    go_ret
    exact ⟨ret_int64 (by rw [← Hm.out]), boxi_gb Hg.out⟩
  | false =>
    go_enter Tryd.func26, Tryd.ntmps26
    go_wp2_with fail
    refine (implGridOk W H _).mono ?_
    rintro e w1 ⟨rfl, hg⟩
    rw [hok]
    go_wp2_with fail
    go_ret
    exact ⟨ret_int64 (by simp [countG, hok]), boxi_gb hg⟩

theorem implHasNode (W H n : Int) (w : World) :
    Calls Tryd.prog 106 #[.agg #[.int .i64 W, .int .i64 H], .int .i64 n] w (RetB (hasG W H n) w) := by
  obtain ⟨k, hk⟩ : ∃ k, countG W H = k := ⟨_, rfl⟩
  by_cases h0 : n ≥ 0
  · by_cases h1 : n < k
    all_goals
      go_enter Tryd.func106, Tryd.ntmps106
      go_wp2_with fail
      refine (implNodeCount W H _).mono ?_
      rintro e w1 ⟨rfl, hg⟩
      rw [hk]
      go_wp2_with fail
      go_ret
      exact ⟨ret_bool (by simp [hasG, hk]; omega), boxi_gb hg⟩
  · go_enter Tryd.func106, Tryd.ntmps106
    go_wp2_with fail
    go_ret
    exact ⟨ret_bool (by simp [hasG, hk]; omega), gb_alloc (gb_refl _ _) _⟩

def hasPlaceG (W H x y : Int) : Bool := decide (okG W H = true ∧ 0 ≤ x ∧ x < W ∧ 0 ≤ y ∧ y < H)

theorem implHasPlace (W H x y : Int) (w : World) :
    Calls Tryd.prog 109 #[.agg #[.int .i64 W, .int .i64 H], .int .i64 x, .int .i64 y] w (RetB (hasPlaceG W H x y) w) := by
  cases hok : okG W H with
  | true =>
    obtain ⟨p1, p2, p3, p4⟩ := okG_iff.1 hok
    by_cases h1 : x ≥ 0 <;> by_cases h2 : x < W <;> by_cases h3 : y ≥ 0 <;> by_cases h4 : y < H
    all_goals first | (exfalso; omega) | skip
    all_goals
      go_enter Tryd.func109, Tryd.ntmps109
      go_wp2_with fail
      refine (implGridOk W H _).mono ?_
      rintro e w1 ⟨rfl, hg⟩
      have hb := boxi_blk hg
      have c0 := hb.cell 0
      have c1 := hb.cell 1
      have Hg := Lib.hid hg
      clear hg hb
      simp at c0 c1
      rw [hok]
      go_wp2_with fail
      go_ret
      exact ⟨ret_bool (by
        unfold hasPlaceG
        first
        | exact (decide_eq_true ⟨hok, by omega⟩).symm
        | exact (decide_eq_false (fun h => by have := h.2; omega)).symm
        | exact decide_eq_decide.2 ⟨fun h => by omega, fun h => h.2.2.2.2⟩), boxi_gb Hg.out⟩
  | false =>
    go_enter Tryd.func109, Tryd.ntmps109
    go_wp2_with fail
    refine (implGridOk W H _).mono ?_
    rintro e w1 ⟨rfl, hg⟩
    rw [hok]
    go_wp2_with fail
    go_ret
    exact ⟨ret_bool (by simp [hasPlaceG, hok]), boxi_gb hg⟩

theorem implNodeAt (W H x y : Int) (w : World) :
    Calls Tryd.prog 107 #[.agg #[.int .i64 W, .int .i64 H], .int .i64 x, .int .i64 y] w (RetI (atG W H x y) none w) := by
  cases hp : hasPlaceG W H x y with
  | true =>
    obtain ⟨hok, hx0, hx1, hy0, hy1⟩ : okG W H = true ∧ 0 ≤ x ∧ x < W ∧ 0 ≤ y ∧ y < H := by simpa [hasPlaceG] using hp
    obtain ⟨hW, hH⟩ := okG_cases hok
    rcases hW with rfl | rfl | rfl | rfl
    all_goals
      go_enter Tryd.func107, Tryd.ntmps107
      go_wp2_with fail
      refine (implHasPlace _ H x y _).mono ?_
      rintro e w1 ⟨rfl, hg⟩
      have hb := boxi_blk hg
      have c0 := hb.cell 0
      have Hg := Lib.hid hg
      clear hg hb
      simp at c0
      rw [hp]
      go_wp2_with fail
      go_ret
      exact ⟨ret_int64 (by unfold atG; rw [if_pos ⟨hok, by omega⟩] <;> omega), boxi_gb Hg.out⟩
  | false =>
    go_enter Tryd.func107, Tryd.ntmps107
    go_wp2_with fail
    refine (implHasPlace W H x y _).mono ?_
    rintro e w1 ⟨rfl, hg⟩
    rw [hp]
    go_wp2_with fail
    go_ret
    exact ⟨ret_int64 (by unfold atG; rw [if_neg (by simpa [hasPlaceG] using hp)]), boxi_gb hg⟩
end Go.Proofs.YtidilfakganooaaDoor
end

section
namespace Go.Proofs.YtidilfakganooaaDoor
open Go.ChangeShapes Go.WideShapes Go.ChangeAt Go.RowKit
set_option linter.unusedVariables false

/-- A node's column and row. -/
theorem implPlace (W H n x y : Int) (hh : hasG W H n = true) (hx : n % W = x) (hy : n / W = y) (w : World) :
    Calls Tryd.prog 95 #[.agg #[.int .i64 W, .int .i64 H], .int .i64 n] w fun e w' => e = .returned (.tuple #[.int .i64 x, .int .i64 y]) ∧ w.grownBy w' none := by
  obtain ⟨hW, hH⟩ := okG_cases (hasG_ok hh).1
  obtain ⟨h0, h1⟩ := hasG_le hh
  have hq := row_wrap h0 h1 hW
  have da : n.tdiv W = y := by rw [Int.tdiv_eq_ediv_of_nonneg h0]; exact hy
  have ta : n.tmod W = x := by rw [Int.tmod_eq_emod_of_nonneg h0]; exact hx
  obtain ⟨a0, a1, a2, a3, a4⟩ := place_of hh
  rw [hx] at a0 a1
  rw [hy] at a2 a3
  have hWn : W ≠ 0 := by omega
  have hW1 : 1 ≤ W := by omega
  have hW2 : W ≤ 4 := by omega
  have hH2 : H ≤ 4 := by omega
  clear hW hH hx hy hq a4 h0
  go_enter Tryd.func95, Tryd.ntmps95
  go_wp2_with fail
  go_quiet (fail)
  go_wp2_with fail
  go_ret2
  exact ⟨rfl, gb_drewN (gb_alloc (gb_refl _ _) _) _⟩

theorem gb_undrew {a b : World} {row : Option Nat} (h : a.drew.grownBy b row) : a.grownBy b row := ⟨h.os, h.tape, h.output, h.size, h.block⟩
end Go.Proofs.YtidilfakganooaaDoor
end

section
namespace Go.Proofs.YtidilfakganooaaDoor
open Go.ChangeShapes Go.WideShapes Go.ChangeAt Go.RowKit
set_option linter.unusedVariables false

theorem implToward (s g lo hi : Int) (w : World) :
    Calls Tryd.prog 96 #[.int .i64 s, .int .i64 g, .int .i64 lo, .int .i64 hi] w (RetI (towardG s g lo hi) none w) := by
  by_cases h1 : g < s
  · go_enter Tryd.func96, Tryd.ntmps96
    go_wp2_with fail
    go_ret
    exact ⟨ret_int64 (by simp [towardG, h1]), gb_refl _ _⟩
  · by_cases h2 : g > s
    all_goals
      go_enter Tryd.func96, Tryd.ntmps96
      go_wp2_with fail
      go_ret
      exact ⟨ret_int64 (by unfold towardG; first | rw [if_neg (Int.not_lt.2 h1), if_pos h2] | rw [if_neg (Int.not_lt.2 h1), if_neg (Int.not_lt.2 h2)]), gb_refl _ _⟩
theorem implTowardV (s g lo hi r : Int) (h : towardG s g lo hi = r) (w : World) :
    Calls Tryd.prog 96 #[.int .i64 s, .int .i64 g, .int .i64 lo, .int .i64 hi] w (RetI r none w) := h ▸ implToward s g lo hi w

theorem implInRow (W H a b r : Int) (ha : hasG W H a = true) (hb : hasG W H b = true) (hr : rowTo W a b = r) (w : World) :
    Calls Tryd.prog 83 #[.agg #[.int .i64 W, .int .i64 H], .int .i64 a, .int .i64 b] w (RetI r none w) := by
  obtain ⟨x, hx⟩ : ∃ x, a % W = x := ⟨_, rfl⟩
  obtain ⟨u, hu⟩ : ∃ u, b % W = u := ⟨_, rfl⟩
  obtain ⟨y, hy⟩ : ∃ y, a / W = y := ⟨_, rfl⟩
  obtain ⟨v, hv⟩ : ∃ v, b / W = v := ⟨_, rfl⟩
  have HA := Lib.hid (fun w => implPlace W H a x y ha hx hy w)
  have HB := Lib.hid (fun w => implPlace W H b u v hb hu hv w)
  have HT := Lib.hid (fun w => implTowardV x u 3 1 r (by rw [← hr, rowTo, hx, hu]) w)
  clear ha hb hr hx hu hy hv
  go_enter Tryd.func83, Tryd.ntmps83
  go_wp2_with fail
  refine (HA.out _).mono ?_
  rintro e w1 ⟨rfl, g1⟩
  have hb1 := boxi_blk g1
  have a0 : w1.cell? ⟨w.heap.size, 0, none⟩ = some (.int .i64 W) := hb1.cell 0
  have a1 : w1.cell? ⟨w.heap.size, 1, none⟩ = some (.int .i64 H) := hb1.cell 1
  have HG1 := Lib.hid g1
  clear g1 hb1
  go_wp2_with fail
  refine (HB.out _).mono ?_
  rintro e w2 ⟨rfl, g2⟩
  have HG2 := Lib.hid (gb_trans HG1.out g2)
  clear g2
  go_wp2_with fail
  refine (HT.out _).mono ?_
  rintro e w3 ⟨rfl, g3⟩
  have HG3 := Lib.hid (gb_trans HG2.out g3)
  clear g3
  go_wp2_with fail
  go_ret
  exact ⟨rfl, boxi_gb HG3.out⟩
theorem implInColumn (W H a b r : Int) (ha : hasG W H a = true) (hb : hasG W H b = true) (hr : colTo W a b = r) (w : World) :
    Calls Tryd.prog 84 #[.agg #[.int .i64 W, .int .i64 H], .int .i64 a, .int .i64 b] w (RetI r none w) := by
  obtain ⟨x, hx⟩ : ∃ x, a % W = x := ⟨_, rfl⟩
  obtain ⟨u, hu⟩ : ∃ u, b % W = u := ⟨_, rfl⟩
  obtain ⟨y, hy⟩ : ∃ y, a / W = y := ⟨_, rfl⟩
  obtain ⟨v, hv⟩ : ∃ v, b / W = v := ⟨_, rfl⟩
  have HA := Lib.hid (fun w => implPlace W H a x y ha hx hy w)
  have HB := Lib.hid (fun w => implPlace W H b u v hb hu hv w)
  have HT := Lib.hid (fun w => implTowardV y v 0 2 r (by rw [← hr, colTo, hy, hv]) w)
  clear ha hb hr hx hu hy hv
  go_enter Tryd.func84, Tryd.ntmps84
  go_wp2_with fail
  refine (HA.out _).mono ?_
  rintro e w1 ⟨rfl, g1⟩
  have hb1 := boxi_blk g1
  have a0 : w1.cell? ⟨w.heap.size, 0, none⟩ = some (.int .i64 W) := hb1.cell 0
  have a1 : w1.cell? ⟨w.heap.size, 1, none⟩ = some (.int .i64 H) := hb1.cell 1
  have HG1 := Lib.hid g1
  clear g1 hb1
  go_wp2_with fail
  refine (HB.out _).mono ?_
  rintro e w2 ⟨rfl, g2⟩
  have HG2 := Lib.hid (gb_trans HG1.out g2)
  clear g2
  go_wp2_with fail
  refine (HT.out _).mono ?_
  rintro e w3 ⟨rfl, g3⟩
  have HG3 := Lib.hid (gb_trans HG2.out g3)
  clear g3
  go_wp2_with fail
  go_ret
  exact ⟨rfl, boxi_gb HG3.out⟩

theorem implXY (W H a b r : Int) (ha : hasG W H a = true) (hb : hasG W H b = true) (hr : xyG W a b = r) (w : World) :
    Calls Tryd.prog 61 #[.agg #[.int .i64 W, .int .i64 H], .int .i64 a, .int .i64 b] w (RetI r none w) := by
  obtain ⟨p, hp⟩ : ∃ p, rowTo W a b = p := ⟨_, rfl⟩
  obtain ⟨q, hq⟩ : ∃ q, colTo W a b = q := ⟨_, rfl⟩
  unfold xyG at hr
  rw [hp, hq] at hr
  have HA := Lib.hid (fun w => implInRow W H a b p ha hb hp w)
  have HB := Lib.hid (fun w => implInColumn W H a b q ha hb hq w)
  clear ha hb hp hq
  by_cases h4 : p = 4
  · rw [if_pos h4] at hr
    have h5 : (p != 4) = false := by simpa using h4
    subst hr
    clear h4
    go_enter Tryd.func61, Tryd.ntmps61
    go_wp2_with fail
    refine (HA.out _).mono ?_
    rintro e w1 ⟨rfl, g1⟩
    have hb1 := boxi_blk g1
    have a0 : w1.cell? ⟨w.heap.size, 0, none⟩ = some (.int .i64 W) := hb1.cell 0
    have a1 : w1.cell? ⟨w.heap.size, 1, none⟩ = some (.int .i64 H) := hb1.cell 1
    have HG1 := Lib.hid g1
    clear g1 hb1
    go_wp2_with fail
    refine (HB.out _).mono ?_
    rintro e w2 ⟨rfl, g2⟩
    have HG2 := Lib.hid (gb_trans HG1.out g2)
    clear g2
    go_wp2_with fail
    go_ret
    exact ⟨rfl, boxi_gb HG2.out⟩
  · rw [if_neg h4] at hr
    have h5 : (p != 4) = true := by simpa using h4
    subst hr
    clear h4
    go_enter Tryd.func61, Tryd.ntmps61
    go_wp2_with fail
    refine (HA.out _).mono ?_
    rintro e w1 ⟨rfl, g1⟩
    have HG1 := Lib.hid g1
    clear g1
    go_wp2_with fail
    go_ret
    exact ⟨rfl, boxi_gb HG1.out⟩
theorem implYX (W H a b r : Int) (ha : hasG W H a = true) (hb : hasG W H b = true) (hr : yxG W a b = r) (w : World) :
    Calls Tryd.prog 62 #[.agg #[.int .i64 W, .int .i64 H], .int .i64 a, .int .i64 b] w (RetI r none w) := by
  obtain ⟨p, hp⟩ : ∃ p, colTo W a b = p := ⟨_, rfl⟩
  obtain ⟨q, hq⟩ : ∃ q, rowTo W a b = q := ⟨_, rfl⟩
  unfold yxG at hr
  rw [hp, hq] at hr
  have HA := Lib.hid (fun w => implInColumn W H a b p ha hb hp w)
  have HB := Lib.hid (fun w => implInRow W H a b q ha hb hq w)
  clear ha hb hp hq
  by_cases h4 : p = 4
  · rw [if_pos h4] at hr
    have h5 : (p != 4) = false := by simpa using h4
    subst hr
    clear h4
    go_enter Tryd.func62, Tryd.ntmps62
    go_wp2_with fail
    refine (HA.out _).mono ?_
    rintro e w1 ⟨rfl, g1⟩
    have hb1 := boxi_blk g1
    have a0 : w1.cell? ⟨w.heap.size, 0, none⟩ = some (.int .i64 W) := hb1.cell 0
    have a1 : w1.cell? ⟨w.heap.size, 1, none⟩ = some (.int .i64 H) := hb1.cell 1
    have HG1 := Lib.hid g1
    clear g1 hb1
    go_wp2_with fail
    refine (HB.out _).mono ?_
    rintro e w2 ⟨rfl, g2⟩
    have HG2 := Lib.hid (gb_trans HG1.out g2)
    clear g2
    go_wp2_with fail
    go_ret
    exact ⟨rfl, boxi_gb HG2.out⟩
  · rw [if_neg h4] at hr
    have h5 : (p != 4) = true := by simpa using h4
    subst hr
    clear h4
    go_enter Tryd.func62, Tryd.ntmps62
    go_wp2_with fail
    refine (HA.out _).mono ?_
    rintro e w1 ⟨rfl, g1⟩
    have HG1 := Lib.hid g1
    clear g1
    go_wp2_with fail
    go_ret
    exact ⟨rfl, boxi_gb HG1.out⟩
theorem implWest (W H a b r : Int) (ha : hasG W H a = true) (hb : hasG W H b = true) (hr : westG W a b = r) (w : World) :
    Calls Tryd.prog 63 #[.agg #[.int .i64 W, .int .i64 H], .int .i64 a, .int .i64 b] w (RetI r none w) := by
  obtain ⟨p, hp⟩ : ∃ p, rowTo W a b = p := ⟨_, rfl⟩
  obtain ⟨q, hq⟩ : ∃ q, yxG W a b = q := ⟨_, rfl⟩
  unfold westG at hr
  rw [hp, hq] at hr
  have HA := Lib.hid (fun w => implInRow W H a b p ha hb hp w)
  have HB := Lib.hid (fun w => implYX W H a b q ha hb hq w)
  clear ha hb hp hq
  by_cases h4 : p = 3
  · rw [if_pos h4] at hr
    have h5 : (p == 3) = true := by simpa using h4
    subst hr
    clear h4
    go_enter Tryd.func63, Tryd.ntmps63
    go_wp2_with fail
    refine (HA.out _).mono ?_
    rintro e w1 ⟨rfl, g1⟩
    have HG1 := Lib.hid g1
    clear g1
    go_wp2_with fail
    go_ret
    exact ⟨rfl, boxi_gb HG1.out⟩
  · rw [if_neg h4] at hr
    have h5 : (p == 3) = false := by simpa using h4
    subst hr
    clear h4
    go_enter Tryd.func63, Tryd.ntmps63
    go_wp2_with fail
    refine (HA.out _).mono ?_
    rintro e w1 ⟨rfl, g1⟩
    have hb1 := boxi_blk g1
    have a0 : w1.cell? ⟨w.heap.size, 0, none⟩ = some (.int .i64 W) := hb1.cell 0
    have a1 : w1.cell? ⟨w.heap.size, 1, none⟩ = some (.int .i64 H) := hb1.cell 1
    have HG1 := Lib.hid g1
    clear g1 hb1
    go_wp2_with fail
    refine (HB.out _).mono ?_
    rintro e w2 ⟨rfl, g2⟩
    have HG2 := Lib.hid (gb_trans HG1.out g2)
    clear g2
    go_wp2_with fail
    go_ret
    exact ⟨rfl, boxi_gb HG2.out⟩
theorem implMixed (W H a b r : Int) (ha : hasG W H a = true) (hb : hasG W H b = true) (hr : mixG W a b = r) (w : World) :
    Calls Tryd.prog 64 #[.agg #[.int .i64 W, .int .i64 H], .int .i64 a, .int .i64 b] w (RetI r none w) := by
  obtain ⟨p, hp⟩ : ∃ p, xyG W a b = p := ⟨_, rfl⟩
  obtain ⟨q, hq⟩ : ∃ q, yxG W a b = q := ⟨_, rfl⟩
  unfold mixG at hr
  rw [hp, hq] at hr
  have HA := Lib.hid (fun w => implXY W H a b p ha hb hp w)
  have HB := Lib.hid (fun w => implYX W H a b q ha hb hq w)
  obtain ⟨b0, b1⟩ := hasG_le hb
  have hm : b.tmod 2 = b % 2 := by rw [Int.tmod_eq_emod_of_nonneg b0]
  clear ha hb hp hq
  rcases (show b % 2 = 0 ∨ b % 2 = 1 by omega) with h4 | h4
  · rw [if_pos h4] at hr
    rw [h4] at hm
    subst hr
    clear h4
    go_enter Tryd.func64, Tryd.ntmps64
    go_wp2_with fail
    refine (HA.out _).mono ?_
    rintro e w1 ⟨rfl, g1⟩
    have HG1 := Lib.hid g1
    clear g1
    go_wp2_with fail
    go_ret
    exact ⟨rfl, boxi_gb HG1.out⟩
  · rw [if_neg (by omega)] at hr
    rw [h4] at hm
    subst hr
    clear h4
    go_enter Tryd.func64, Tryd.ntmps64
    go_wp2_with fail
    refine (HB.out _).mono ?_
    rintro e w1 ⟨rfl, g1⟩
    have HG1 := Lib.hid g1
    clear g1
    go_wp2_with fail
    go_ret
    exact ⟨rfl, boxi_gb HG1.out⟩
end Go.Proofs.YtidilfakganooaaDoor
end

section
namespace Go.Proofs.YtidilfakganooaaDoor
open Go.ChangeShapes Go.WideShapes Go.ChangeAt Go.RowKit
set_option linter.unusedVariables false

theorem gb_row {w : World} {g : Nat} {old cs : Array Value} {t : TypeId} (h : Blk w g t old) : Blk (w.setRow g cs) g t cs ∧ w.grownBy (w.setRow g cs) (some g) := by
  refine ⟨setRow_heap w g old cs t (0, 0) h, rfl, rfl, rfl, ?_, fun i hi hne => ?_⟩
  · simp [World.setRow]
  · have hne' : g ≠ i := fun e => hne (by rw [e])
    simp [World.setRow, Array.getElem?_modify, hne']
theorem gb_fresh {a b c : World} {g : Nat} (h : a.grownBy b none) (k : b.grownBy c (some g)) (hg : a.heap.size ≤ g) : a.grownBy c none :=
  ⟨k.os.trans h.os, k.tape.trans h.tape, k.output.trans h.output, Nat.le_trans h.size k.size, fun i hi hne => (k.block i (Nat.lt_of_lt_of_le hi h.size) (fun e => by cases e; omega)).trans (h.block i hi hne)⟩

/-- A rule as two cells: its name and its function. -/
def ruleName (r : Int) : ByteArray := if r = 1 then ⟨#[120, 121]⟩ else if r = 2 then ⟨#[121, 120]⟩ else if r = 3 then ⟨#[119, 101, 115, 116]⟩ else if r = 4 then ⟨#[109, 105, 120, 101, 100]⟩ else ⟨#[]⟩
def ruleFn (r : Int) : Value := if r = 1 then .func (.func 61) #[] #[] else if r = 2 then .func (.func 62) #[] #[] else if r = 3 then .func (.func 63) #[] #[] else if r = 4 then .func (.func 64) #[] #[] else .nilFunc
def ruleC (r : Int) : Array Value := #[.string (ruleName r), ruleFn r]
def rulesC : Array Value := #[.string (ruleName 0), ruleFn 0, .string (ruleName 1), ruleFn 1, .string (ruleName 2), ruleFn 2, .string (ruleName 3), ruleFn 3, .string (ruleName 4), ruleFn 4]
theorem rules_info : (Tryd.prog.info? 84).map (·.size) = some 10 := by kernel_rfl
theorem rule_info : (Tryd.prog.info? 61).map (·.size) = some 2 := by kernel_rfl

theorem rules_one : rulesC.all (·.oneCell') = true := by simp [rulesC, ruleFn, Value.oneCell']
theorem rule_one (r : Int) : (ruleC r).all (·.oneCell') = true := by
  simp only [ruleC, ruleFn]
  repeat' split
  all_goals simp [Value.oneCell']

theorem implRules (w : World) :
    Calls Tryd.prog 42 #[] w fun e w' => e = .returned (.agg rulesC) ∧ w.grownBy w' none := by
  go_enter Tryd.func42, Tryd.ntmps42
  go_wp2_with (refine wpList_store_row (P := Tryd.prog) rfl 84 (.tmp 0) (.tmp 5) rfl w.heap.size rulesC rfl rfl 84 _ (Blk.new _ _ _) rules_info rfl rules_one ?_)
  obtain ⟨b1, g1⟩ := gb_row (cs := rulesC) (Blk.new w 84 (#[.string ⟨#[]⟩, .nilFunc, .string ⟨#[]⟩, .nilFunc, .string ⟨#[]⟩, .nilFunc, .string ⟨#[]⟩, .nilFunc, .string ⟨#[]⟩, .nilFunc]))
  exact bodyPost_ret (v := .agg rulesC) (results_cell_row Tryd.results42 _ _ w.heap.size _ rulesC (0, 0) _ rfl b1 Tryd.underlying84 rfl rules_info) rfl ⟨rfl, gb_fresh (gb_alloc (gb_refl _ _) _) g1 (Nat.le_refl _)⟩

theorem index_rules (r : Int) (h1 : 1 ≤ r) (h4 : r ≤ 4) (w : World) :
    (Instr.index 84 (.agg rulesC) (.int .i64 r)).run Tryd.prog w = .ok (.agg (ruleC r)) w := by
  have hr : r = 1 ∨ r = 2 ∨ r = 3 ∨ r = 4 := by omega
  rcases hr with rfl | rfl | rfl | rfl
  all_goals simp [Instr.index, run_underlying Tryd.underlying84, asIntOf, part, go_sem, rulesC, ruleC]
theorem wpList_indexRule {ops : Array Oper} {rest : List Oper} {op : Oper} {a : Act} {w : World} {Q : Exit → Act → World → Prop} (hgd : op.guard = none) (x y : Operand) (ho : op.op = .index 84 x y)
    (r : Int) (hx : a.eval x = .agg rulesC) (hy : a.eval y = .int .i64 r) (h1 : 1 ≤ r) (h4 : r ≤ 4)
    (h : wpList Tryd.prog ops Q rest (a.put op.dst (.agg (ruleC r))) w) : wpList Tryd.prog ops Q (op :: rest) a w :=
  wpList_plain hgd fun _ hK => by
    unfold Oper.wp execOp
    simp only [ho, hx, hy, index_rules r h1 h4, Sem.run_bind, Result.andThen_ok]
    exact hK _ _ h
theorem ruleC_out {r : Int} (h : r < 1 ∨ 4 < r) : ruleC r = #[.string ⟨#[]⟩, .nilFunc] := by
  have a1 : r ≠ 1 := by omega
  have a2 : r ≠ 2 := by omega
  have a3 : r ≠ 3 := by omega
  have a4 : r ≠ 4 := by omega
  simp [ruleC, ruleName, ruleFn, a1, a2, a3, a4]
theorem ret_rule {tmps : Array Value} {w : World} {g : Nat} {cs : Array Value} {b : Bool} (hb : Blk w g 61 cs) (hs : (Tryd.prog.info? 61).map (·.size) = some cs.size)
    (hp : tmps.getD 2 undef = .pointer (some ⟨g, 0, none⟩)) (hq : tmps.getD 3 undef = .bool b) : (results Tryd.f24 tmps).run Tryd.prog w = .ok (.tuple #[.agg cs, .bool b]) w := by
  rw [results_cell_tmp Tryd.results24, hp, hq]
  simp only [asAddr, Sem.run_pure, Result.andThen_ok, run_loadVar_row w g _ _ cs (0, 0) _ hb Tryd.underlying61 rfl hs]
/-- The rule that was found, and whether there is one. -/
theorem implFindRule (r : Int) (b : Bool) (hb : decide (1 ≤ r ∧ r ≤ 4) = b) (w : World) :
    Calls Tryd.prog 24 #[.int .i64 r] w fun e w' => e = .returned (.tuple #[.agg (ruleC r), .bool b]) ∧ w.grownBy w' none := by
  have HZ := Lib.hid (Blk.new w 61 #[.string ⟨#[]⟩, .nilFunc])
  by_cases h1 : r < 1
  · have HC := Lib.hid (ruleC_out (.inl h1))
    obtain rfl : false = b := by rw [← hb]; simp; omega
    clear hb
    go_enter Tryd.func24, Tryd.ntmps24
    go_wp2_with (refine wpList_store_row (P := Tryd.prog) rfl 61 (.tmp 2) (.tmp 10) rfl w.heap.size #[.string ⟨#[]⟩, .nilFunc] rfl rfl 61 _ HZ.out rule_info rfl (by simp [Value.oneCell']) ?_)
    obtain ⟨b1, g1⟩ := gb_row (cs := #[.string ⟨#[]⟩, .nilFunc]) HZ.out
    rw [HC.out]
    exact bodyPost_ret (v := .tuple #[.agg #[.string ⟨#[]⟩, .nilFunc], .bool false]) (ret_rule b1 rule_info rfl rfl) rfl ⟨rfl, gb_fresh (gb_alloc (gb_refl _ _) _) g1 (Nat.le_refl _)⟩
  · by_cases h4 : r > 4
    · have HC := Lib.hid (ruleC_out (.inr h4))
      obtain rfl : false = b := by rw [← hb]; simp; omega
      clear hb
      go_enter Tryd.func24, Tryd.ntmps24
      go_wp2_with (refine wpList_store_row (P := Tryd.prog) rfl 61 (.tmp 2) (.tmp 10) rfl w.heap.size #[.string ⟨#[]⟩, .nilFunc] rfl rfl 61 _ HZ.out rule_info rfl (by simp [Value.oneCell']) ?_)
      obtain ⟨b1, g1⟩ := gb_row (cs := #[.string ⟨#[]⟩, .nilFunc]) HZ.out
      rw [HC.out]
      exact bodyPost_ret (v := .tuple #[.agg #[.string ⟨#[]⟩, .nilFunc], .bool false]) (ret_rule b1 rule_info rfl rfl) rfl ⟨rfl, gb_fresh (gb_alloc (gb_refl _ _) _) g1 (Nat.le_refl _)⟩
    · have h1' : 1 ≤ r := by omega
      have h4' : r ≤ 4 := by omega
      obtain rfl : true = b := by rw [← hb]; simp; omega
      clear hb
      go_enter Tryd.func24, Tryd.ntmps24
      go_wp2_with fail
      refine (implRules _).mono ?_
      rintro e w1 ⟨rfl, g1⟩
      have HB1 := Lib.hid (boxi_blk g1)
      have HG1 := Lib.hid (boxi_gb g1)
      clear g1
      go_wp2_with (first | (refine wpList_indexRule rfl (.tmp 11) (.tmp 12) rfl r rfl rfl h1' h4' ?_) | (refine wpList_store_row (P := Tryd.prog) rfl 61 (.tmp 2) (.tmp 13) rfl w.heap.size (ruleC r) rfl rfl 61 _ HB1.out rule_info rfl (rule_one r) ?_))
      obtain ⟨b2, g2⟩ := gb_row (cs := ruleC r) HB1.out
      exact bodyPost_ret (v := .tuple #[.agg (ruleC r), .bool true]) (ret_rule b2 rule_info rfl rfl) rfl ⟨rfl, gb_fresh HG1.out g2 (Nat.le_refl _)⟩
end Go.Proofs.YtidilfakganooaaDoor
end

section
namespace Go.Proofs.YtidilfakganooaaDoor
open Go.ChangeShapes Go.WideShapes Go.ChangeAt Go.RowKit
set_option linter.unusedVariables false

def portAll (W H r a b : Int) : Int := if (hasG W H a && hasG W H b && decide (1 ≤ r ∧ r ≤ 4)) = true then stdPort W r a b else -1
def stdOk (W H r : Int) : Bool := okG W H && decide (1 ≤ r ∧ r ≤ 4)
def stdRes (W H r : Int) : List Int := if stdOk W H r = true then stdTab W H r else []
/-- A new table and whether there is one. -/
def RetTab (P : List Int) (b : Bool) (w : World) (e : Ending) (w' : World) : Prop :=
  ∃ v, e = .returned (.tuple #[.agg #[v], .bool b]) ∧ w'.ownsRow w.heap.size 3 1 v P.length (intsV P) ∧ Below w.heap.size w w'
theorem stdRes_length (W H r : Int) : (stdRes W H r).length ≤ 256 := by
  unfold stdRes
  split
  · rw [stdTab, stdTo_len]; exact sq_le W H
  · simp
end Go.Proofs.YtidilfakganooaaDoor
end

section
namespace Go.Proofs.YtidilfakganooaaDoor
open Go.ChangeShapes Go.WideShapes Go.ChangeAt Go.RowKit
set_option linter.unusedVariables false

theorem wpList_storeRule {ops : Array Oper} {rest : List Oper} {op : Oper} {a : Act} {w : World} {Q : Exit → Act → World → Prop} (hgd : op.guard = none) (x y : Operand) (ho : op.op = .store 61 x y)
    (g : Nat) (old : Array Value) (s : ByteArray) (F : Value) (hF : (#[.string s, F] : Array Value).all (·.oneCell') = true) (hx : a.eval x = .pointer (some ⟨g, 0, none⟩)) (hy : a.eval y = .agg #[.string s, F]) (hb : Blk w g 61 old) (hl : old.size = 2)
    (h : ∀ w', Blk w' g 61 #[.string s, F] → w.grownBy w' (some g) → wpList Tryd.prog ops Q rest (a.put op.dst undef) w') : wpList Tryd.prog ops Q (op :: rest) a w :=
  wpList_store_row (P := Tryd.prog) hgd _ x y ho g #[.string s, F] hx hy _ old hb rule_info hl hF (h _ (gb_row hb).1 (gb_row hb).2)

theorem implHasNodeV (W H n : Int) (b : Bool) (h : hasG W H n = b) (w : World) :
    Calls Tryd.prog 106 #[.agg #[.int .i64 W, .int .i64 H], .int .i64 n] w (RetB b w) := h ▸ implHasNode W H n w
end Go.Proofs.YtidilfakganooaaDoor
end

section
namespace Go.Proofs.YtidilfakganooaaDoor
open Go.ChangeShapes Go.WideShapes Go.ChangeAt Go.RowKit
set_option linter.unusedVariables false

/-- A new list of numbers. -/
def NewI (L : List Int) (w : World) (e : Ending) (w' : World) : Prop :=
  ∃ v, e = .returned v ∧ w'.ownsRow w.heap.size 3 1 v L.length (intsV L) ∧ Below w.heap.size w w'
theorem below_box {w wr : World} {o : Obj} (h : Below (w.heap.size + 1) (w.alloc o) wr) : Below w.heap.size w wr := by
  have h0 : Below w.heap.size w (w.alloc o) := (Below.refl _ _).alloc (Nat.le_refl _) o
  exact ⟨h.os.trans h0.os, h.tape.trans h0.tape, h.output.trans h0.output, Nat.le_trans h0.size h.size, fun i hi => (h.block i (by omega)).trans (h0.block i hi)⟩
theorem below_gb {B : Nat} {a b c : World} (h : Below B a b) (hB : B ≤ a.heap.size) (k : b.grownBy c none) : Below B a c :=
  h.grown k (Nat.le_trans hB h.size) (fun j e => by cases e)
end Go.Proofs.YtidilfakganooaaDoor
end

section
namespace Go.Proofs.YtidilfakganooaaDoor
open Go.ChangeShapes Go.WideShapes Go.ChangeAt Go.RowKit
set_option linter.unusedVariables false

theorem specIn (x lo hi : Int) (w : World) :
    Calls Tryd.prog 74 #[.int .i64 x, .int .i64 lo, .int .i64 hi] w fun e w' => e = .returned (.bool (decide (lo ≤ x ∧ x ≤ hi))) ∧ w = w' := by
  by_cases h1 : lo ≤ x
  all_goals
    go_enter Tryd.func74, Tryd.ntmps74
    go_wp2
    all_goals go_ret
    all_goals exact ⟨ret_bool (by simp <;> omega), rfl⟩

theorem specInV (x lo hi : Int) (b : Bool) (hb : decide (lo ≤ x ∧ x ≤ hi) = b) (w : World) :
    Calls Tryd.prog 74 #[.int .i64 x, .int .i64 lo, .int .i64 hi] w fun e w' => e = .returned (.bool b) ∧ w = w' := hb ▸ specIn x lo hi w

theorem box_blk {w w1 : World} {T : TypeId} {cs : Array Value} (h : (w.alloc (.cells cs T)).grownBy w1 none) : Blk w1 w.heap.size T cs := (Blk.new w T cs).grown h (by simp)
theorem box_gb {w w1 : World} {o : Obj} (h : (w.alloc o).grownBy w1 none) : w.grownBy w1 none := gb_trans (gb_alloc (gb_refl _ _) _) h

end Go.Proofs.YtidilfakganooaaDoor
end

section
namespace Go.Proofs.YtidilfakganooaaDoor
open Go.ChangeShapes Go.WideShapes Go.ChangeAt Go.RowKit
set_option linter.unusedVariables false

/-- A grid as a value. -/
def gridV (W H : Int) : Value := .agg #[.int .i64 W, .int .i64 H]
def gridC (W H : Int) : Array Value := #[.int .i64 W, .int .i64 H]

theorem specGridOk (W H : Int) (w : World) :
    Calls Tryd.prog 73 #[.agg #[.int .i64 W, .int .i64 H]] w (RetB (okG W H) w) := by
  by_cases h1 : 1 ≤ W ∧ W ≤ 4
  · by_cases h2 : 1 ≤ H ∧ H ≤ 4
    all_goals
      go_enter Tryd.func73, Tryd.ntmps73
      go_wp2_with fail
      refine (specInV W 1 4 true (by simpa using h1) _).mono ?_
      rintro e w1 ⟨rfl, rfl⟩
      go_wp2_with fail
      first
      | refine (specInV H 1 4 true (by simpa using h2) _).mono ?_
      | refine (specInV H 1 4 false (by simpa using h2) _).mono ?_
      rintro e w1 ⟨rfl, rfl⟩
      go_wp2_with fail
      go_ret
      exact ⟨ret_bool (by simp [okG]; omega), gb_alloc (gb_refl _ _) _⟩
  · go_enter Tryd.func73, Tryd.ntmps73
    go_wp2_with fail
    refine (specInV W 1 4 false (by simpa using h1) _).mono ?_
    rintro e w1 ⟨rfl, rfl⟩
    go_wp2_with fail
    go_ret
    exact ⟨ret_bool (by simp [okG]; omega), gb_alloc (gb_refl _ _) _⟩

theorem specNodeCount (W H : Int) (w : World) :
    Calls Tryd.prog 50 #[.agg #[.int .i64 W, .int .i64 H]] w (RetI (countG W H) none w) := by
  cases hok : okG W H with
  | true =>
    obtain ⟨hW, hH⟩ := okG_cases hok
    have hm : wrap64 (W * H) = countG W H := by
      simp only [countG, hok, if_true]
      rcases hW with rfl | rfl | rfl | rfl <;> rcases hH with rfl | rfl | rfl | rfl <;> exact IntWalk.wrap64_in _ (by omega)
    have Hm := Lib.hid hm
    clear hW hH hm
    go_enter Tryd.func50, Tryd.ntmps50
    go_wp2_with fail
    refine (specGridOk W H _).mono ?_
    rintro e w1 ⟨rfl, hg⟩
    have hb := box_blk hg
    have c0 : w1.cell? ⟨w.heap.size, 0, none⟩ = some (.int .i64 W) := hb.cell 0
    have c1 : w1.cell? ⟨w.heap.size, 1, none⟩ = some (.int .i64 H) := hb.cell 1
    have Hg := Lib.hid hg
    clear hg hb
    rw [hok]
    go_wp2_with fail
    go_ret
    exact ⟨ret_int64 (by rw [← Hm.out]), box_gb Hg.out⟩
  | false =>
    go_enter Tryd.func50, Tryd.ntmps50
    go_wp2_with fail
    refine (specGridOk W H _).mono ?_
    rintro e w1 ⟨rfl, hg⟩
    rw [hok]
    go_wp2_with fail
    go_ret
    exact ⟨ret_int64 (by simp [countG, hok]), box_gb hg⟩

theorem specHas (W H n : Int) (w : World) :
    Calls Tryd.prog 92 #[.agg #[.int .i64 W, .int .i64 H], .int .i64 n] w (RetB (hasG W H n) w) := by
  obtain ⟨k, hk⟩ : ∃ k, countG W H = k := ⟨_, rfl⟩
  have hl := countG_le W H
  rw [hk] at hl
  obtain ⟨hl0, hl1⟩ := hl
  go_enter Tryd.func92, Tryd.ntmps92
  go_wp2_with fail
  refine (specNodeCount W H _).mono ?_
  rintro e w1 ⟨rfl, hg⟩
  rw [hk]
  go_wp2_with fail
  refine (specInV n 0 _ (hasG W H n) (by unfold hasG; rw [hk]; exact decide_eq_decide.2 (by omega)) _).mono ?_
  rintro e w2 ⟨rfl, rfl⟩
  go_wp2_with fail
  go_ret
  exact ⟨rfl, box_gb hg⟩
theorem specHasV (W H n : Int) (b : Bool) (h : hasG W H n = b) (w : World) :
    Calls Tryd.prog 92 #[.agg #[.int .i64 W, .int .i64 H], .int .i64 n] w (RetB b w) := h ▸ specHas W H n w
end Go.Proofs.YtidilfakganooaaDoor
end

section
namespace Go.Proofs.YtidilfakganooaaDoor
open Go.ChangeShapes Go.WideShapes Go.ChangeAt Go.RowKit
set_option linter.unusedVariables false

theorem box2 {w w1 : World} {T U : TypeId} {cs ds : Array Value} (h : ((w.alloc (.cells cs T)).alloc (.cells ds U)).grownBy w1 none) :
    Blk w1 w.heap.size T cs ∧ Blk w1 (w.heap.size + 1) U ds ∧ w.grownBy w1 none := by
  refine ⟨((Blk.new w T cs).alloc _).grown h (by simp), ?_, gb_trans (gb_alloc (gb_alloc (gb_refl _ _) _) _) h⟩
  have := (Blk.new (w.alloc (.cells cs T)) U ds).grown h (by simp)
  rwa [alloc_size] at this
theorem sq_bounds {k : Int} (h0 : 0 ≤ k) (h1 : k ≤ 16) : 0 ≤ k * k ∧ k * k ≤ 256 := by
  have e : k = (k.toNat : Int) := (Int.toNat_of_nonneg h0).symm
  have h2 : k.toNat ≤ 16 := by omega
  have h3 : k.toNat * k.toNat ≤ 16 * 16 := Nat.mul_le_mul h2 h2
  rw [e, ← Int.natCast_mul]
  omega
end Go.Proofs.YtidilfakganooaaDoor
end

section
namespace Go.Proofs.YtidilfakganooaaDoor
open Go.ChangeShapes Go.WideShapes Go.ChangeAt Go.RowKit
set_option linter.unusedVariables false

/-- 256 zeros. -/
def zerosX : List Int := List.replicate 256 0
theorem zerosX_length : zerosX.length = 256 := List.length_replicate
/-- The square after the first i pairs of k nodes were written. -/
def sqTo (k : Nat) (f : Nat → Int) : Nat → List Int
  | 0 => zerosX
  | i + 1 => (sqTo k f i).set (16 * (i / k) + i % k) (f i)
theorem sqTo_length (k : Nat) (f : Nat → Int) (i : Nat) : (sqTo k f i).length = 256 := by
  induction i with
  | zero => exact zerosX_length
  | succ i ih => rw [sqTo, List.length_set]; exact ih
theorem pair_div {a b k : Nat} (hb : b < k) : (a * k + b) / k = a := by
  rw [Nat.add_comm, Nat.add_mul_div_right _ _ (by omega), Nat.div_eq_of_lt hb]; omega
theorem pair_mod {a b k : Nat} (hb : b < k) : (a * k + b) % k = b := by
  rw [Nat.add_comm, Nat.add_mul_mod_self_right]; exact Nat.mod_eq_of_lt hb
theorem sqTo_at {k a b i : Nat} (f : Nat → Int) (hk : k ≤ 16) (ha : a < k) (hb : b < k) (h : a * k + b < i) : (sqTo k f i).getD (16 * a + b) 0 = f (a * k + b) := by
  induction i with
  | zero => omega
  | succ i ih =>
    rw [sqTo, List.getD_eq_getElem?_getD, List.getElem?_set]
    have hm : i % k < k := Nat.mod_lt _ (by omega)
    by_cases e : a * k + b = i
    · have e1 : i / k = a := by rw [← e]; exact pair_div hb
      have e2 : i % k = b := by rw [← e]; exact pair_mod hb
      rw [e1, e2, if_pos rfl, if_pos (by rw [sqTo_length]; omega), e]
      rfl
    · have hne : ¬ 16 * (i / k) + i % k = 16 * a + b := fun he => by
        have e1 : i / k = a := by omega
        have e2 : i % k = b := by omega
        have := Nat.div_add_mod i k
        rw [e1, e2, Nat.mul_comm] at this
        exact e this
      rw [if_neg hne, ← List.getD_eq_getElem?_getD]
      exact ih (by omega)
theorem sqTo_mem {k i : Nat} {f : Nat → Int} {x : Int} (h : x ∈ sqTo k f i) : x = 0 ∨ ∃ j, j < i ∧ x = f j := by
  induction i with
  | zero => exact .inl (List.eq_of_mem_replicate h)
  | succ i ih =>
    rcases List.mem_or_eq_of_mem_set h with h1 | h1
    · rcases ih h1 with h2 | ⟨j, hj, h2⟩
      · exact .inl h2
      · exact .inr ⟨j, by omega, h2⟩
    · exact .inr ⟨i, by omega, h1⟩

/-- The greatest of the first n numbers, at least 0. -/
def topTo (X : List Int) : Nat → Int
  | 0 => 0
  | n + 1 => max (topTo X n) (X.getD n 0)
/-- The greatest of the first i + 1 numbers. -/
def mxTo (R : List Int) : Nat → Int
  | 0 => R.getD 0 0
  | i + 1 => max (mxTo R i) (R.getD (i + 1) 0)
theorem top_row {X R : List Int} {s : Nat} (i : Nat) (h : ∀ j, j ≤ i → R.getD j 0 = X.getD (s + j) 0) : max (topTo X s) (mxTo R i) = topTo X (s + i + 1) := by
  induction i with
  | zero => rw [mxTo, h 0 (Nat.le_refl _)]; rfl
  | succ i ih =>
    rw [mxTo, ← Int.max_assoc, ih (fun j hj => h j (by omega)), h (i + 1) (Nat.le_refl _)]
    rfl
theorem topTo_le {X : List Int} {m : Int} (hm : 0 ≤ m) (h : ∀ x ∈ X, x ≤ m) (n : Nat) : topTo X n ≤ m := by
  induction n with
  | zero => exact hm
  | succ n ih =>
    rw [topTo]
    refine Int.max_le.2 ⟨ih, ?_⟩
    rw [List.getD_eq_getElem?_getD]
    cases hx : X[n]? with
    | none => exact hm
    | some x => exact h x (List.mem_of_getElem? hx)
theorem le_topTo {X : List Int} {i n : Nat} (h : i < n) : X.getD i 0 ≤ topTo X n := by
  induction n with
  | zero => omega
  | succ n ih =>
    rw [topTo]
    rcases Nat.lt_succ_iff_lt_or_eq.1 h with h1 | rfl
    · exact Int.le_trans (ih h1) (Int.le_max_left _ _)
    · exact Int.le_max_right _ _
theorem topTo_nonneg (X : List Int) (n : Nat) : 0 ≤ topTo X n := by
  induction n with
  | zero => exact Int.le_refl _
  | succ n ih => rw [topTo]; exact Int.le_trans ih (Int.le_max_left _ _)
/-- A list that is given at all its indices is between. -/
theorem mxTo_le {R : List Int} {m : Int} (h : ∀ j, R.getD j 0 ≤ m) (i : Nat) : mxTo R i ≤ m := by
  induction i with
  | zero => exact h 0
  | succ i ih => rw [mxTo]; exact Int.max_le.2 ⟨ih, h _⟩

/-- The port of an entry: -1 outside of the range 0 to 4. -/
def portP (p : Int) : Int := if p < 0 ∨ 4 < p then -1 else p
theorem portP_bounds (p : Int) : -1 ≤ portP p ∧ portP p ≤ 4 := by unfold portP; split <;> omega
theorem portP_in {p : Int} (h0 : 0 ≤ p) (h1 : p ≤ 4) : portP p = p := if_neg (by omega)
theorem portP_out {p : Int} (h : p < 0 ∨ 4 < p) : portP p = -1 := if_pos h
theorem portP_four {p : Int} : portP p = 4 ↔ p = 4 := by unfold portP; split <;> omega
theorem portP_in_of {p q : Int} (h : portP p = q) (h0 : 0 ≤ q) : p = q := by unfold portP at h; split at h <;> omega

section
variable {W H : Int} {L P : List Int}
/-- The nodes of a grid. -/
def cntN (W H : Int) : Nat := (countG W H).toNat
theorem cntN_int (W H : Int) : (cntN W H : Int) = countG W H := Int.toNat_of_nonneg (countG_le W H).1
theorem cntN_le (W H : Int) : cntN W H ≤ 16 := by have := countG_le W H; have := cntN_int W H; omega
/-- The table as a square of ports. -/
def portsX (W H : Int) (P : List Int) (i : Nat) : List Int := sqTo (cntN W H) (fun j => portP (P.getD j 0)) i
/-- The lengths of the walks as a square. -/
def lensX (W H : Int) (L P : List Int) (i : Nat) : List Int := sqTo (cntN W H) (fun j => (lenAt W H L P j : Int)) i
/-- The square holds the ports of the table. -/
def isPorts (W H : Int) (P X : List Int) : Prop := X.length = 256 ∧ ∀ a b : Nat, (a : Int) < countG W H → (b : Int) < countG W H → X.getD (16 * a + b) 0 = portP (tabG (countG W H) P a b)
theorem sq_lt {k a b : Nat} (ha : a < k) (hb : b < k) : a * k + b < k * k := by
  have : (a + 1) * k ≤ k * k := Nat.mul_le_mul_right _ (by omega)
  rw [Nat.add_mul, Nat.one_mul] at this
  omega
theorem portsX_is (hs : sizedG W H L P = true) : isPorts W H P (portsX W H P P.length) := by
  refine ⟨sqTo_length _ _ _, fun a b ha hb => ?_⟩
  have hk := cntN_int W H
  have hp := (sizedG_mesh hs).2
  have hpn : P.length = cntN W H * cntN W H := by rw [← hk] at hp; exact_mod_cast hp
  rw [portsX, sqTo_at _ (cntN_le W H) (by omega) (by omega) (by rw [hpn]; exact sq_lt (by omega) (by omega))]
  rw [tabG, ← hk, show ((a : Int) * (cntN W H : Int) + (b : Int)).toNat = a * cntN W H + b by rw [← Int.natCast_mul, ← Int.natCast_add, Int.toNat_natCast]]
theorem lensX_top : topTo (lensX W H L P (sqG W H)) 256 = (mostTo W H L P (sqG W H) : Int) := by
  have hk := cntN_le W H
  refine Int.le_antisymm (topTo_le (by omega) (fun x hx => ?_) _) ?_
  · rcases sqTo_mem hx with rfl | ⟨j, hj, rfl⟩
    · omega
    · exact_mod_cast mostTo_le hj
  · have h : ∀ i, i ≤ sqG W H → (mostTo W H L P i : Int) ≤ topTo (lensX W H L P (sqG W H)) 256 := fun i => by
      induction i with
      | zero => intro _; exact topTo_nonneg _ _
      | succ i ih =>
        intro hi
        rw [mostTo]
        have h1 := ih (by omega)
        have hlt : i < cntN W H * cntN W H := hi
        have hk0 : 0 < cntN W H := Nat.pos_of_ne_zero fun e => by rw [e] at hlt; omega
        have hd : i / cntN W H < cntN W H := Nat.div_lt_of_lt_mul hlt
        have hm : i % cntN W H < cntN W H := Nat.mod_lt _ hk0
        have he : i / cntN W H * cntN W H + i % cntN W H = i := by rw [Nat.mul_comm]; exact Nat.div_add_mod _ _
        have h2 := sqTo_at (fun j => (lenAt W H L P j : Int)) hk hd hm (i := sqG W H) (by omega)
        have h3 := le_topTo (X := lensX W H L P (sqG W H)) (i := 16 * (i / cntN W H) + i % cntN W H) (n := 256) (by omega)
        rw [lensX, h2, he] at h3
        rw [lensX] at h1 ⊢
        omega
    exact h _ (Nat.le_refl _)
/-- The number of a pair. -/
theorem lenAt_pair {a b : Nat} (hb : (b : Int) < countG W H) : lenAt W H L P (a * cntN W H + b) = (walkOf W H L P a b).length := by
  have hk := cntN_int W H
  have e1 : ((a * cntN W H + b : Nat) : Int) / countG W H = a := by
    rw [← hk, ← Int.natCast_ediv, pair_div (by omega)]
  have e2 : ((a * cntN W H + b : Nat) : Int) % countG W H = b := by
    rw [← hk, ← Int.natCast_emod, pair_mod (by omega)]
  rw [lenAt, e1, e2]

/-- The walk ends. -/
def endsG (W H : Int) (L P : List Int) (a b : Int) : Bool := (walkF W H L P b ((countG W H).toNat + 1) a).isSome
theorem walkF_never {to : Int} (h : tabG (countG W H) P to to ≠ 4) : ∀ (f : Nat) (a : Int), walkF W H L P to f a = none
  | 0, _ => rfl
  | f + 1, a => by
    rw [walkF]
    split
    · rename_i h4
      rw [if_neg (fun e => by subst e; exact h h4)]
    · split
      · rw [walkF_never h f]; rfl
      · rfl
theorem ends_entry (a b : Int) : endsG W H L P a b = entryG W H L P a b := by
  by_cases e : a = b
  · subst e
    rw [entry_same, endsG]
    by_cases h4 : tabG (countG W H) P a a = 4
    · rw [walkF_end h4 rfl, h4]; rfl
    · rw [walkF_never h4]; simp [h4]
  · rw [entry_two e, endsG, walkOf]
    by_cases h4 : tabG (countG W H) P a b = 4
    · rw [walkF_lost h4 e]; rfl
    · cases hs : stepsG W H L a (tabG (countG W H) P a b) with
      | false => rw [walkF_bad rfl h4 hs]; rfl
      | true =>
        rw [walkF_go rfl h4 hs]
        cases walkF W H L P b (countG W H).toNat (nextG W H a (tabG (countG W H) P a b)) <;> simp
theorem walkOf_same (a : Int) : walkOf W H L P a a = [] := by
  rw [walkOf]
  by_cases h4 : tabG (countG W H) P a a = 4
  · rw [walkF_end h4 rfl]; rfl
  · rw [walkF_never h4]; rfl
theorem walkG_ask {a b : Int} (h : askG W H L P a b = true) : walkG W H L P a b = walkOf W H L P a b := by
  by_cases e : a = b
  · subst e; rw [walkOf_same, walkG, if_neg (by simp)]
  · rw [walkG, if_pos ⟨h, e⟩]
theorem walkG_no {a b : Int} (h : askG W H L P a b = false) : walkG W H L P a b = [] := by rw [walkG, if_neg (by simp [h])]
theorem portAtG_ask {a b : Int} (h : askG W H L P a b = true) : portAtG W H L P a b = portP (tabG (countG W H) P a b) := by
  unfold portAtG portP
  by_cases h2 : 0 ≤ tabG (countG W H) P a b ∧ tabG (countG W H) P a b ≤ 4
  · rw [if_pos ⟨h, h2⟩, if_neg (by omega)]
  · rw [if_neg (fun e => h2 e.2), if_pos (by omega)]
theorem portAtG_no {a b : Int} (h : askG W H L P a b = false) : portAtG W H L P a b = -1 := by rw [portAtG, if_neg (by simp [h])]
/-- Whether the rest of a walk ends. -/
def restE (W H : Int) (L P : List Int) (to : Int) (f : Nat) (a : Int) : Bool := (walkF W H L P to f a).isSome
theorem restE_start (a b : Int) : restE W H L P b ((countG W H).toNat + 1) a = endsG W H L P a b := rfl
theorem restE_end {to a : Int} {f : Nat} (h : tabG (countG W H) P a to = 4) (he : a = to) : restE W H L P to (f + 1) a = true := by rw [restE, walkF_end h he]; rfl
theorem restE_lost {to a : Int} {f : Nat} (h : tabG (countG W H) P a to = 4) (he : a ≠ to) : restE W H L P to (f + 1) a = false := by rw [restE, walkF_lost h he]; rfl
theorem restE_bad {to a p : Int} {f : Nat} (h : tabG (countG W H) P a to = p) (h4 : p ≠ 4) (hs : stepsG W H L a p = false) : restE W H L P to (f + 1) a = false := by rw [restE, walkF_bad h h4 hs]; rfl
theorem restE_go {to a p : Int} {f : Nat} (h : tabG (countG W H) P a to = p) (h4 : p ≠ 4) (hs : stepsG W H L a p = true) : restE W H L P to (f + 1) a = restE W H L P to f (nextG W H a p) := by
  rw [restE, walkF_go h h4 hs, restE]
  cases walkF W H L P to f (nextG W H a p) <;> rfl
end
end Go.Proofs.YtidilfakganooaaDoor
end

section
namespace Go.Proofs.YtidilfakganooaaDoor
open Go.ChangeShapes Go.WideShapes Go.ChangeAt Go.RowKit
set_option linter.unusedVariables false

/-- The function of a rule that exists can be called and returns the port. -/
theorem ruleFn_calls {r : Int} (h1 : 1 ≤ r) (h4 : r ≤ 4) : ∃ f, ruleFn r = .func (.func f) #[] #[] ∧ (∀ args w, (callFunc f args).run Tryd.prog w = .ok (.enter f args) w) ∧
    ∀ (W H a b : Int), hasG W H a = true → hasG W H b = true → ∀ w, Calls Tryd.prog f #[.agg #[.int .i64 W, .int .i64 H], .int .i64 a, .int .i64 b] w (RetI (stdPort W r a b) none w) := by
  have hr : r = 1 ∨ r = 2 ∨ r = 3 ∨ r = 4 := by omega
  rcases hr with rfl | rfl | rfl | rfl
  · exact ⟨_, rfl, Tryd.call61, fun W H a b ha hb w => implXY W H a b _ ha hb (xy_std ha hb) w⟩
  · exact ⟨_, rfl, Tryd.call62, fun W H a b ha hb w => implYX W H a b _ ha hb (yx_std ha hb) w⟩
  · exact ⟨_, rfl, Tryd.call63, fun W H a b ha hb w => implWest W H a b _ ha hb (west_std ha hb) w⟩
  · exact ⟨_, rfl, Tryd.call64, fun W H a b ha hb w => implMixed W H a b _ ha hb (mix_std ha hb) w⟩

theorem implGridOkV (W H : Int) (b : Bool) (h : okG W H = b) (w : World) :
    Calls Tryd.prog 25 #[.agg #[.int .i64 W, .int .i64 H]] w (RetB b w) := h ▸ implGridOk W H w
theorem implNodeCountV2 (W H k : Int) (h : countG W H = k) (w : World) :
    Calls Tryd.prog 26 #[.agg #[.int .i64 W, .int .i64 H]] w (RetI k none w) := h ▸ implNodeCount W H w

/-- The call's own blocks: the grid, the result, the rule; and the ports so far. -/
def StdAt (W H r : Int) (s : ByteArray) (F : Value) (g : Nat) (w : World) (k : Nat) (v : Value) (wr : World) : Prop :=
  Blk wr w.heap.size 25 #[.int .i64 W, .int .i64 H] ∧ Blk wr (w.heap.size + 1) 30 #[.slice none 0 0] ∧ Blk wr g 61 #[.string s, F] ∧
  wr.ownsRow (g + 1) 3 1 v k (intsV (stdTo W H r k)) ∧ Below w.heap.size w wr

theorem StdAt.app {W H r p : Int} {s : ByteArray} {F : Value} {g : Nat} {w wr w5 : World} {k : Nat} {v v' : Value} {o : Obj} (h : StdAt W H r s F g w k v wr) (hgw : w.heap.size + 2 ≤ g)
    (hg : (wr.alloc o).grownBy w5 v.ownBlock) (ho : w5.ownsRow (g + 1) 3 1 v' (k + 1) (intsV (stdTo W H r k) ++ [.int .i64 p])) (hp : stdTo W H r (k + 1) = stdTo W H r k ++ [p]) : StdAt W H r s F g w (k + 1) v' w5 := by
  obtain ⟨h0, h1, h2, hown, hb⟩ := h
  have hne : ∀ j, j < g + 1 → some j ≠ v.ownBlock := fun j hj e => by have := (hown.lt j e.symm).1; omega
  refine ⟨(h0.alloc o).grown hg (hne _ (by omega)), (h1.alloc o).grown hg (hne _ (by omega)), (h2.alloc o).grown hg (hne _ (by omega)), ?_, ?_⟩
  · rw [hp, intsV_append]; exact ho
  · exact (hb.alloc hb.size o).grown hg (by have := hb.size; simp; omega) (fun j hj => by have := (hown.lt j hj).1; omega)
theorem StdAt.none {W H r : Int} {s : ByteArray} {F : Value} {g : Nat} {w wr w5 : World} {k : Nat} {v : Value} (h : StdAt W H r s F g w k v wr) (hg : wr.grownBy w5 none) : StdAt W H r s F g w k v w5 :=
  ⟨h.1.grown hg (by simp), h.2.1.grown hg (by simp), h.2.2.1.grown hg (by simp), own_none h.2.2.2.1 hg, below_gb h.2.2.2.2 (Nat.le_refl _) hg⟩
theorem stdTo_pair {W H r : Int} {x y k : Nat} (hk : (k : Int) = countG W H) (hy : y < k) : stdTo W H r (x * k + y + 1) = stdTo W H r (x * k + y) ++ [stdPort W r (x : Int) (y : Int)] := by
  have e1 : ((x * k + y : Nat) : Int) / (k : Int) = x := by rw [← Int.natCast_ediv, pair_div hy]
  have e2 : ((x * k + y : Nat) : Int) % (k : Int) = y := by rw [← Int.natCast_emod, pair_mod hy]
  rw [stdTo_succ, ← hk, e1, e2]
theorem has_cnt {W H : Int} {x k : Nat} (hk : (k : Int) = countG W H) (hx : x < k) : hasG W H (x : Int) = true := hasG_iff.2 ⟨by omega, by omega⟩

theorem implStdTab (W H r : Int) (w : World) :
    Calls Tryd.prog 8 #[.agg #[.int .i64 W, .int .i64 H], .int .i64 r] w (RetTab (stdRes W H r) (stdOk W H r) w) := by
  obtain ⟨P, hP⟩ : ∃ P, stdRes W H r = P := ⟨_, rfl⟩
  obtain ⟨b, hb⟩ : ∃ b, stdOk W H r = b := ⟨_, rfl⟩
  rw [hP, hb]
  obtain ⟨s, hs⟩ : ∃ s, ruleName r = s := ⟨_, rfl⟩
  obtain ⟨i0, hi, hz0, hz1, hz2⟩ := info_parts info_int
  have hbk0 := (Blk.new w 25 #[.int .i64 W, .int .i64 H]).alloc (.cells #[.slice none 0 0] 30)
  have hbk1 := Blk.new (w.alloc (.cells #[.int .i64 W, .int .i64 H] 25)) 30 #[.slice none 0 0]
  rw [alloc_size] at hbk1
  have K0 := Lib.hid hbk0
  have K1 := Lib.hid hbk1
  have KG := Lib.hid (gb_alloc (gb_alloc (gb_refl w none) (.cells #[.int .i64 W, .int .i64 H] 25)) (.cells #[.slice none 0 0] 30))
  clear hbk0 hbk1
  cases hr : decide (1 ≤ r ∧ r ≤ 4) with
  | false =>
    have HF := Lib.hid (fun w => implFindRule r false hr w)
    obtain ⟨F, hF⟩ : ∃ F, ruleFn r = F := ⟨_, rfl⟩
    have HR : Hid (ruleC r = #[.string s, F]) := Lib.hid (by rw [ruleC, hF, hs])
    have H1 : Hid ((#[.string s, F] : Array Value).all (·.oneCell') = true) := Lib.hid (by rw [← HR.out]; exact rule_one r)
    have hB : b = false := by rw [← hb, stdOk, hr]; simp
    have hPP : P = [] := by rw [← hP, stdRes, hb, hB]; rfl
    subst hB
    subst hPP
    clear hF hr hs hb hP
    go_enter Tryd.func8, Tryd.ntmps8
    go_wp2_with fail
    refine (HF.out _).mono ?_
    rintro e w1 ⟨rfl, g1⟩
    have HB0 := Lib.hid ((K0.out.grown g1 (by simp)).alloc (.cells #[.string ⟨#[]⟩, .nilFunc] 61))
    have HB1 := Lib.hid ((K1.out.grown g1 (by simp)).alloc (.cells #[.string ⟨#[]⟩, .nilFunc] 61))
    have HG1 := Lib.hid (gb_trans KG.out g1)
    have HNE : Hid (w.heap.size + 2 ≤ w1.heap.size) := Lib.hid (by have := g1.size; rw [alloc_size, alloc_size] at this; exact this)
    clear g1
    rw [HR.out]
    have HZ := Lib.hid (Blk.new w1 61 #[.string ⟨#[]⟩, .nilFunc])
    go_wp2_with (refine wpList_storeRule rfl (.tmp 6) (.tmp 15) rfl w1.heap.size _ s F H1.out rfl rfl HZ.out rfl ?_
                 intro w2 hb2 hg2
                 have hb3 := HB0.out.grown hg2 (fun e => by have := Option.some.inj e; have := HNE.out; omega)
                 have hb4 := HB1.out.grown hg2 (fun e => by have := Option.some.inj e; have := HNE.out; omega)
                 have c0 : w2.cell? ⟨w.heap.size, 0, none⟩ = some (.int .i64 W) := hb3.cell 0
                 have c1 : w2.cell? ⟨w.heap.size, 1, none⟩ = some (.int .i64 H) := hb3.cell 1
                 have c2 : w2.cell? ⟨w.heap.size + 1, 0, none⟩ = some (.slice none 0 0) := hb4.cell 0
                 have c3 := hb4.frozen 0
                 have HB4 := Lib.hid hb4
                 have HG2 := Lib.hid (gb_fresh (gb_alloc HG1.out _) hg2 HG1.out.size)
                 clear hg2 hb2 hb3 hb4)
    have h1 := (HB4.out.set_ 0 (.slice none 0 0)).cell 0
    simp at h1
    refine bodyPost_ret (v := .tuple #[.agg #[.slice none 0 0], .bool false]) (by simp [results, Tryd.results8, go_sem, h1]) rfl ⟨_, rfl, World.ownsRow_nil _ _ _ _, ?_⟩
    exact gb_below_none (gb_setCell HG2.out (.inr (by show w.heap.size ≤ w.heap.size + 1; omega)) _) (Nat.le_refl _)
  | true =>
    have HF := Lib.hid (fun w => implFindRule r true hr w)
    cases ho : okG W H with
    | false =>
      obtain ⟨F, hF⟩ : ∃ F, ruleFn r = F := ⟨_, rfl⟩
      have HR : Hid (ruleC r = #[.string s, F]) := Lib.hid (by rw [ruleC, hF, hs])
      have H1 : Hid ((#[.string s, F] : Array Value).all (·.oneCell') = true) := Lib.hid (by rw [← HR.out]; exact rule_one r)
      have hB : b = false := by rw [← hb, stdOk, ho, hr]; simp
      have hPP : P = [] := by rw [← hP, stdRes, hb, hB]; rfl
      subst hB
      subst hPP
      have HO := Lib.hid (fun w => implGridOkV W H false ho w)
      clear hF hr hs hb hP ho
      go_enter Tryd.func8, Tryd.ntmps8
      go_wp2_with fail
      refine (HF.out _).mono ?_
      rintro e w1 ⟨rfl, g1⟩
      have HB0 := Lib.hid ((K0.out.grown g1 (by simp)).alloc (.cells #[.string ⟨#[]⟩, .nilFunc] 61))
      have HB1 := Lib.hid ((K1.out.grown g1 (by simp)).alloc (.cells #[.string ⟨#[]⟩, .nilFunc] 61))
      have HG1 := Lib.hid (gb_trans KG.out g1)
      have HNE : Hid (w.heap.size + 2 ≤ w1.heap.size) := Lib.hid (by have := g1.size; rw [alloc_size, alloc_size] at this; exact this)
      clear g1
      rw [HR.out]
      have HZ := Lib.hid (Blk.new w1 61 #[.string ⟨#[]⟩, .nilFunc])
      go_wp2_with (refine wpList_storeRule rfl (.tmp 6) (.tmp 15) rfl w1.heap.size _ s F H1.out rfl rfl HZ.out rfl ?_
                   intro w2 hb2 hg2
                   have hb3 := HB0.out.grown hg2 (fun e => by have := Option.some.inj e; have := HNE.out; omega)
                   have hb4 := HB1.out.grown hg2 (fun e => by have := Option.some.inj e; have := HNE.out; omega)
                   have c0 : w2.cell? ⟨w.heap.size, 0, none⟩ = some (.int .i64 W) := hb3.cell 0
                   have c1 : w2.cell? ⟨w.heap.size, 1, none⟩ = some (.int .i64 H) := hb3.cell 1
                   have c2 : w2.cell? ⟨w.heap.size + 1, 0, none⟩ = some (.slice none 0 0) := hb4.cell 0
                   have c3 := hb4.frozen 0
                   have HB4 := Lib.hid hb4
                   have HG2 := Lib.hid (gb_fresh (gb_alloc HG1.out _) hg2 HG1.out.size)
                   clear hg2 hb2 hb3 hb4)
      refine (HO.out _).mono ?_
      rintro e w3 ⟨rfl, g3⟩
      have hb5 := HB4.out.grown g3 (by simp)
      have d2 : w3.cell? ⟨w.heap.size + 1, 0, none⟩ = some (.slice none 0 0) := hb5.cell 0
      have d3 := hb5.frozen 0
      have HB5 := Lib.hid hb5
      have HG3 := Lib.hid (gb_trans HG2.out g3)
      clear g3 hb5
      go_wp2_with fail
      have h1 := (HB5.out.set_ 0 (.slice none 0 0)).cell 0
      simp at h1
      refine bodyPost_ret (v := .tuple #[.agg #[.slice none 0 0], .bool false]) (by simp [results, Tryd.results8, go_sem, h1]) rfl ⟨_, rfl, World.ownsRow_nil _ _ _ _, ?_⟩
      exact gb_below_none (gb_setCell HG3.out (.inr (by show w.heap.size ≤ w.heap.size + 1; omega)) _) (Nat.le_refl _)
    | true =>
      obtain ⟨f, hf, hgo, hcall⟩ := ruleFn_calls (r := r) (by simp at hr; omega) (by simp at hr; omega)
      have HR : Hid (ruleC r = #[.string s, .func (.func f) #[] #[]]) := Lib.hid (by rw [ruleC, hf, hs])
      have hB : b = true := by rw [← hb, stdOk, ho, hr]; rfl
      have hPP : P = stdTab W H r := by rw [← hP, stdRes, hb, hB]; rfl
      subst hB
      obtain ⟨k, hk⟩ : ∃ k, cntN W H = k := ⟨_, rfl⟩
      have hki := cntN_int W H
      have hk1 := cntN_le W H
      rw [hk] at hki hk1
      have HO := Lib.hid (fun w => implGridOkV W H true ho w)
      have HN := Lib.hid (fun w => implNodeCountV2 W H (k : Int) hki.symm w)
      have HC := Lib.hid (fun a b ha hb w => hcall W H a b ha hb w)
      have HK := Lib.hid hk
      have HPP := Lib.hid hPP
      clear hcall hf hr hs ho hb hP hki hk hPP
      go_enter Tryd.func8, Tryd.ntmps8
      go_wp2_with fail
      refine (HF.out _).mono ?_
      rintro e w1 ⟨rfl, g1⟩
      have hb0 := (K0.out.grown g1 (by simp)).alloc (.cells #[.string ⟨#[]⟩, .nilFunc] 61)
      have hb1 := (K1.out.grown g1 (by simp)).alloc (.cells #[.string ⟨#[]⟩, .nilFunc] 61)
      have HB0 := Lib.hid hb0
      have HB1 := Lib.hid hb1
      have HG1 := Lib.hid (gb_trans KG.out g1)
      have HNE : Hid (w.heap.size + 2 ≤ w1.heap.size) := Lib.hid (by have := g1.size; rw [alloc_size, alloc_size] at this; exact this)
      clear g1 hb0 hb1
      rw [HR.out]
      have HZ := Lib.hid (Blk.new w1 61 #[.string ⟨#[]⟩, .nilFunc])
      go_wp2_with (refine wpList_storeRule rfl (.tmp 6) (.tmp 15) rfl w1.heap.size _ s (.func (.func f) #[] #[]) (by simp [Value.oneCell']) rfl rfl HZ.out rfl ?_
                   intro w2 hb2 hg2
                   have hb3 := HB0.out.grown hg2 (fun e => by have := Option.some.inj e; have := HNE.out; omega)
                   have hb4 := HB1.out.grown hg2 (fun e => by have := Option.some.inj e; have := HNE.out; omega)
                   have c0 : w2.cell? ⟨w.heap.size, 0, none⟩ = some (.int .i64 W) := hb3.cell 0
                   have c1 : w2.cell? ⟨w.heap.size, 1, none⟩ = some (.int .i64 H) := hb3.cell 1
                   have HB3 := Lib.hid hb3
                   have HB4 := Lib.hid hb4
                   have HB2 := Lib.hid hb2
                   have HG2 := Lib.hid (gb_fresh (gb_alloc HG1.out _) hg2 HG1.out.size)
                   clear hg2 hb2 hb3 hb4)
      refine (HO.out _).mono ?_
      rintro e w3 ⟨rfl, g3⟩
      have hb0 := HB3.out.grown g3 (by simp)
      have c0 : w3.cell? ⟨w.heap.size, 0, none⟩ = some (.int .i64 W) := hb0.cell 0
      have c1 : w3.cell? ⟨w.heap.size, 1, none⟩ = some (.int .i64 H) := hb0.cell 1
      have HB5 := Lib.hid hb0
      have HB6 := Lib.hid (HB4.out.grown g3 (by simp))
      have HB7 := Lib.hid (HB2.out.grown g3 (by simp))
      have HG3 := Lib.hid (gb_trans HG2.out g3)
      clear g3 hb0
      go_wp2_with fail
      refine (HN.out _).mono ?_
      rintro e w4 ⟨rfl, g4⟩
      have hb0 := HB5.out.grown g4 (by simp)
      have HB8 := Lib.hid hb0
      have HB9 := Lib.hid (HB6.out.grown g4 (by simp))
      have HB10 := Lib.hid (HB7.out.grown g4 (by simp))
      have HG4 := Lib.hid (gb_trans HG3.out g4)
      clear g4 hb0
      have HSZ : Hid (w1.heap.size + 1 ≤ w4.heap.size) := Lib.hid (by have := HB10.out.lt; omega)
      have hkk : k * k ≤ 256 := Nat.mul_le_mul hk1 hk1
      have hmul : wrap64 ((k : Int) * (k : Int)) = ((k * k : Nat) : Int) := by rw [← Int.natCast_mul]; exact IntWalk.wrap64_in _ (by omega)
      go_wp2_with (at_make; refine wpList_make_own _ rfl _ _ 27 rfl (w1.heap.size + 1) 3 i0 (.int .i64 0) 1 Tryd.underlying27 hi hz0 hz1 .i64 .i64 _ (k * k) rfl rfl (by omega) (by rw [hz2]; omega) (by unfold maxLen; omega) HSZ.out ?_; intro w5 hown5 hgrow5
                   have HX := Lib.hid (show StdAt W H r s (.func (.func f) #[] #[]) w1.heap.size w 0 _ w5 from ⟨HB8.out.grown hgrow5 (by simp), HB9.out.grown hgrow5 (by simp), HB10.out.grown hgrow5 (by simp), hown5, gb_below_none (gb_trans HG4.out hgrow5) (Nat.le_refl _)⟩); clear hown5 hgrow5)
      obtain ⟨g, hg⟩ : ∃ g, w1.heap.size = g := ⟨_, rfl⟩
      rw [hg] at HX HNE
      (try rw [hg])
      clear hg hmul
      have HKI : Hid ((k : Int) = countG W H) := Lib.hid (by rw [← HK.out, cntN_int])
      go_loopw [9, 32] (fun v i wr => ∃ x : Nat, i = .int .i64 (x : Int) ∧ x ≤ k ∧ StdAt W H r s (.func (.func f) #[] #[]) g w (x * k) v wr) (fun _ i _ => 17 - (intOf i).toNat)
      case atStart => exact ⟨0, rfl, Nat.zero_le _, by rw [Nat.zero_mul]; exact HX.out⟩
      case round =>
        obtain ⟨x, rfl, hxk, hst⟩ := hrel
        have HS0 := Lib.hid hst
        clear hst
        by_cases hlt : x < k
        · have HXK := Lib.hid hlt
          go_wp2_with fail
          go_loopw [9, 36] (fun v i wr => ∃ y : Nat, i = .int .i64 (y : Int) ∧ y ≤ k ∧ StdAt W H r s (.func (.func f) #[] #[]) g w (x * k + y) v wr) (fun _ i _ => 17 - (intOf i).toNat)
          case atStart => exact ⟨0, rfl, Nat.zero_le _, HS0.out⟩
          case round =>
            obtain ⟨y, rfl, hyk, hst⟩ := hrel
            have HS1 := Lib.hid hst
            by_cases hlt2 : y < k
            · have a0 : wr.cell? ⟨w.heap.size, 0, none⟩ = some (.int .i64 W) := hst.1.cell 0
              have a1 : wr.cell? ⟨w.heap.size, 1, none⟩ = some (.int .i64 H) := hst.1.cell 1
              have a2 : wr.cell? ⟨g, 1, none⟩ = some (.func (.func f) #[] #[]) := hst.2.2.1.cell 1
              have hlen : x * k + y < k * k := by
                have h1 : (x + 1) * k ≤ k * k := Nat.mul_le_mul_right k HXK.out
                rw [Nat.add_mul, Nat.one_mul] at h1
                omega
              have hax := has_cnt HKI.out HXK.out
              have hay := has_cnt HKI.out hlt2
              have HE := Lib.hid (stdTo_pair (r := r) (x := x) HKI.out hlt2)
              clear hst
              go_wp2_with fail
              refine (HC.out x y hax hay _).mono ?_
              rintro e w6 ⟨rfl, g6⟩
              have hs6 := HS1.out.none g6
              have HS6 := Lib.hid hs6
              have hown6 := hs6.2.2.2.1
              have hsz6 : g + 1 ≤ w6.heap.size := hs6.2.2.1.lt
              have b3' := Lib.hid (show ∀ u ∈ [Value.int .i64 (stdPort W r x y)], u.oneCell' = true by simp [Value.oneCell'])
              have b4' := Lib.hid (show x * k + y + 1 ≤ maxLen by unfold maxLen; omega)
              clear g6 hs6 a0 a1 a2 hax hay
              go_wp2_with (at_builtin; refine wpList_append_own _ rfl _ _ 27 rfl (g + 1) 3 i0 (.int .i64 0) 1 8 Tryd.underlying27 hi hz0 hz1 hz2 rfl (by decide) _ (x * k + y) _ rfl (hown6.alloc _) ⟨w6.heap.size, 0, none⟩ 1 1 [.int .i64 (stdPort W r x y)] rfl rfl (World.news_of_block (cs := #[.int .i64 (stdPort W r x y)]) (t := 3) (fr := (0, 0)) (heap_alloc_new w6 _)) b3'.out b4'.out (by omega) (by simp; omega) ?_; intro v' w7 hown7 hgrow7 _; have HS7 := Lib.hid (HS6.out.app HNE.out hgrow7 hown7 HE.out); clear hown7 hgrow7 hown6)
              go_roundw
              case rel => exact ⟨y + 1, by go_num, by omega, HS7.out⟩
              case measure => simp [intOf]; omega
            · obtain rfl : y = k := by omega
              clear hst
              go_wp2_with fail
              go_roundw
              case rel => exact ⟨x + 1, by go_num, by omega, by rw [Nat.add_mul, Nat.one_mul]; exact HS1.out⟩
              case measure => simp [intOf]; omega
        · obtain rfl : x = k := by omega
          obtain ⟨Av, cv, rfl, _⟩ := own_form HS0.out.2.2.2.1
          have h1 := (HS0.out.2.1.set_ 0 (.slice Av (x * x) cv)).cell 0
          simp at h1
          have f1 := HS0.out.2.1.frozen 0
          have a1 : wr.cell? ⟨w.heap.size + 1, 0, none⟩ = some (.slice none 0 0) := HS0.out.2.1.cell 0
          go_wp2_with fail
          have HSQ := Lib.hid (show sqG W H = x * x from by rw [← HK.out]; rfl)
          refine bodyPost_ret (v := .tuple #[.agg #[.slice Av (x * x) cv], .bool true]) (by simp [results, Tryd.results8, go_sem, h1]) rfl ⟨_, rfl, ?_, ?_⟩
          · have := ownsRow_setCell_below HS0.out.2.2.2.1 (a := ⟨w.heap.size + 1, 0, none⟩) (by show w.heap.size + 1 < g + 1; have := HNE.out; omega) (.slice Av (x * x) cv)
            rw [HPP.out, stdTab, stdTo_len, HSQ.out]
            exact own_less this (by have := HNE.out; omega)
          · exact gb_below_none (gb_setCell (gb_of_below HS0.out.2.2.2.2 none) (.inr (by show w.heap.size ≤ w.heap.size + 1; omega)) _) (Nat.le_refl _)
end Go.Proofs.YtidilfakganooaaDoor
end

section
namespace Go.Proofs.YtidilfakganooaaDoor
open Go.ChangeShapes Go.WideShapes Go.ChangeAt Go.RowKit
set_option linter.unusedVariables false

/-- A mesh as the cells of a block. -/
def meshC (W H : Int) (A : Option Addr) (n cap : Nat) : Array Value := #[.int .i64 W, .int .i64 H, .slice A n cap]
def MeshAt (W H : Int) (L : List Int) (A : Option Addr) (n cap : Nat) (w : World) (k : Nat) (wr : World) : Prop :=
  goodTo W H L k ∧ (w.alloc (.cells (meshC W H A n cap) 37)).grownBy wr none
end Go.Proofs.YtidilfakganooaaDoor
end

section
namespace Go.Proofs.YtidilfakganooaaDoor
open Go.ChangeShapes Go.WideShapes Go.ChangeAt Go.RowKit
set_option linter.unusedVariables false

/-- Numbers as the cells of a block. -/
def cellsX (X : List Int) : Array Value := (intsV X).toArray
theorem cellsX_size (X : List Int) : (cellsX X).size = X.length := by simp [cellsX, intsV_length]
theorem cellsX_at {X : List Int} {i : Nat} {x : Int} (hi : i < X.length) (h : X.getD i 0 = x) : (cellsX X)[i]? = some (.int .i64 x) := by
  rw [List.getD_eq_getElem?_getD, List.getElem?_eq_getElem hi] at h
  simp only [Option.getD_some] at h
  simp [cellsX, intsV, List.getElem?_eq_getElem hi, h]
theorem cellsX_set (X : List Int) (i : Nat) (x : Int) : (cellsX X).setIfInBounds i (.int .i64 x) = cellsX (X.set i x) := by
  simp [cellsX, intsV_set]
theorem cellsX_one (X : List Int) : (cellsX X).all (·.oneCell') = true := by
  rw [Array.all_eq_true_iff_forall_mem]
  intro v hv
  simp only [cellsX, intsV, List.mem_toArray, List.mem_map] at hv
  obtain ⟨x, _, rfl⟩ := hv
  rfl
theorem zero_cells : Tryd.zeroCells134 = cellsX zerosX := by kernel_rfl
theorem square_info : (Tryd.prog.info? 134).map (·.size) = some 256 := by kernel_rfl

section
variable {w : World} {g : Nat} {X Y : List Int}
theorem gb_setRow {w : World} {g : Nat} {old cs : Array Value} {t : TypeId} (h : Blk w g t old) : Blk (w.setRow g cs) g t cs ∧ w.grownBy (w.setRow g cs) (some g) := by
  refine ⟨setRow_heap w g old cs t (0, 0) h, rfl, rfl, rfl, ?_, fun i hi hne => ?_⟩
  · simp [World.setRow]
  · have hne' : g ≠ i := fun e => hne (by rw [e])
    simp [World.setRow, Array.getElem?_modify, hne']
theorem load_square (hb : Blk w g 134 (cellsX X)) (hl : X.length = 256) : (loadVar 134 ⟨g, 0, none⟩).run Tryd.prog w = .ok (.agg (cellsX X)) w :=
  run_loadVar_row w g _ _ (cellsX X) (0, 0) _ hb Tryd.underlying134 rfl (by rw [cellsX_size, hl]; exact square_info)
theorem store_square (hb : Blk w g 134 (cellsX X)) (hl : X.length = 256) (hm : Y.length = 256) : (storeVar 134 ⟨g, 0, none⟩ (.agg (cellsX Y))).run Tryd.prog w = .ok () (w.setRow g (cellsX Y)) :=
  run_storeVar_row w g _ _ (cellsX X) (cellsX Y) hb (by rw [cellsX_size, hm]; exact square_info) (by rw [cellsX_size, cellsX_size, hl, hm]) (cellsX_one Y)
end

theorem wpList_loadX {ops : Array Oper} {rest : List Oper} {op : Oper} {a : Act} {w : World} {Q : Exit → Act → World → Prop} (hgd : op.guard = none) (x : Operand) (ho : op.op = .load 134 x)
    (g : Nat) (hx : a.eval x = .pointer (some ⟨g, 0, none⟩)) (X : List Int) (hb : Blk w g 134 (cellsX X)) (hl : X.length = 256)
    (h : wpList Tryd.prog ops Q rest (a.put op.dst (.agg (cellsX X))) w) : wpList Tryd.prog ops Q (op :: rest) a w :=
  wpList_plain hgd fun _ hK => by
    unfold Oper.wp execOp
    simp only [ho, hx, Instr.loadAt, Instr.sureAddr, Sem.run_bind, Sem.run_pure, Result.andThen_ok, load_square hb hl]
    exact hK _ _ h
theorem wpList_storeX {ops : Array Oper} {rest : List Oper} {op : Oper} {a : Act} {w : World} {Q : Exit → Act → World → Prop} (hgd : op.guard = none) (x y : Operand) (ho : op.op = .store 134 x y)
    (g : Nat) (X Y : List Int) (hx : a.eval x = .pointer (some ⟨g, 0, none⟩)) (hy : a.eval y = .agg (cellsX Y)) (hb : Blk w g 134 (cellsX X)) (hl : X.length = 256) (hm : Y.length = 256)
    (h : ∀ w', Blk w' g 134 (cellsX Y) → w.grownBy w' (some g) → wpList Tryd.prog ops Q rest (a.put op.dst undef) w') : wpList Tryd.prog ops Q (op :: rest) a w :=
  wpList_plain hgd fun _ hK => by
    unfold Oper.wp execOp
    simp only [ho, hx, hy, Instr.storeAt, Instr.sureAddr, Sem.run_bind, Sem.run_pure, Result.andThen_ok, store_square hb hl hm]
    exact hK _ _ (h _ (gb_setRow hb).1 (gb_setRow hb).2)

/-- What is written lies in a block of the call's own. -/
theorem gb_new {a b c : World} {g : Nat} (h : a.grownBy b none) (k : b.grownBy c (some g)) (hg : a.heap.size ≤ g) : a.grownBy c none :=
  ⟨k.os.trans h.os, k.tape.trans h.tape, k.output.trans h.output, Nat.le_trans h.size k.size, fun i hi hne => (k.block i (Nat.lt_of_lt_of_le hi h.size) (fun e => by cases e; omega)).trans (h.block i hi hne)⟩

/-- A square and whether there is one. -/
def RetX (X : List Int) (b : Bool) (w : World) (e : Ending) (w' : World) : Prop := e = .returned (.tuple #[.agg (cellsX X), .bool b]) ∧ w.grownBy w' none
end Go.Proofs.YtidilfakganooaaDoor
end

section
namespace Go.Proofs.YtidilfakganooaaDoor
open Go.ChangeShapes Go.WideShapes Go.ChangeAt Go.RowKit
set_option linter.unusedVariables false

theorem implNodeAtV (W H x y n : Int) (h : atG W H x y = n) (w : World) :
    Calls Tryd.prog 107 #[.agg #[.int .i64 W, .int .i64 H], .int .i64 x, .int .i64 y] w (RetI n none w) := h ▸ implNodeAt W H x y w

theorem implNextNode (W H n p : Int) (w : World) :
    Calls Tryd.prog 104 #[.agg #[.int .i64 W, .int .i64 H], .int .i64 n, .int .i64 p] w (RetI (nextG W H n p) none w) := by
  cases hh : hasG W H n with
  | true =>
    obtain ⟨hW, hH⟩ := okG_cases (hasG_ok hh).1
    obtain ⟨a0, a1, a2, a3, a4⟩ := place_of hh
    have hN : nextG W H n p = (if p = 0 then atG W H (n % W) (n / W - 1) else if p = 1 then atG W H (n % W + 1) (n / W) else if p = 2 then atG W H (n % W) (n / W + 1) else if p = 3 then atG W H (n % W - 1) (n / W) else if p = 4 then n else -1) := by simp [nextG, hh]
    obtain ⟨x, hx⟩ : ∃ x, n % W = x := ⟨_, rfl⟩
    obtain ⟨y, hy⟩ : ∃ y, n / W = y := ⟨_, rfl⟩
    rw [hx, hy] at hN
    rw [hx] at a0 a1
    rw [hy] at a2 a3
    have x1 : x ≤ 4 := by omega
    have y1 : y ≤ 4 := by omega
    obtain ⟨r, hr⟩ : ∃ r, nextG W H n p = r := ⟨_, rfl⟩
    rw [hr] at hN ⊢
    have HP := Lib.hid (fun w => implPlace W H n x y hh hx hy w)
    clear a1 a3 a4 hW hH hr hx hy
    by_cases p0 : p = 0
    · subst p0
      simp at hN
      go_enter Tryd.func104, Tryd.ntmps104
      go_wp2_with fail
      refine (implHasNode W H n _).mono ?_
      rintro e w1 ⟨rfl, hg⟩
      have hb := boxi_blk hg
      have c0 := hb.cell 0
      have c1 := hb.cell 1
      have Hg := Lib.hid (boxi_gb hg)
      clear hg hb
      simp at c0 c1
      rw [hh]
      go_wp2_with fail
      refine (HP.out _).mono ?_
      rintro e w2 ⟨rfl, hg2⟩
      have d0 := hg2.cell c0 (by simp)
      have d1 := hg2.cell c1 (by simp)
      have Hg2 := Lib.hid (gb_trans Hg.out hg2)
      clear hg2 c0 c1
      go_wp2_with fail
      refine (implNodeAtV W H x (y - 1) r hN.symm _).mono ?_
      rintro e w3 ⟨rfl, hg3⟩
      have Hg3 := Lib.hid (gb_trans Hg2.out hg3)
      clear hg3
      go_wp2_with fail
      go_ret
      exact ⟨ret_int64 hN.symm, Hg3.out⟩
    by_cases p1 : p = 1
    · subst p1
      simp at hN
      go_enter Tryd.func104, Tryd.ntmps104
      go_wp2_with fail
      refine (implHasNode W H n _).mono ?_
      rintro e w1 ⟨rfl, hg⟩
      have hb := boxi_blk hg
      have c0 := hb.cell 0
      have c1 := hb.cell 1
      have Hg := Lib.hid (boxi_gb hg)
      clear hg hb
      simp at c0 c1
      rw [hh]
      go_wp2_with fail
      refine (HP.out _).mono ?_
      rintro e w2 ⟨rfl, hg2⟩
      have d0 := hg2.cell c0 (by simp)
      have d1 := hg2.cell c1 (by simp)
      have Hg2 := Lib.hid (gb_trans Hg.out hg2)
      clear hg2 c0 c1
      go_wp2_with fail
      refine (implNodeAtV W H (x + 1) y r hN.symm _).mono ?_
      rintro e w3 ⟨rfl, hg3⟩
      have Hg3 := Lib.hid (gb_trans Hg2.out hg3)
      clear hg3
      go_wp2_with fail
      go_ret
      exact ⟨ret_int64 hN.symm, Hg3.out⟩
    by_cases p2 : p = 2
    · subst p2
      simp at hN
      go_enter Tryd.func104, Tryd.ntmps104
      go_wp2_with fail
      refine (implHasNode W H n _).mono ?_
      rintro e w1 ⟨rfl, hg⟩
      have hb := boxi_blk hg
      have c0 := hb.cell 0
      have c1 := hb.cell 1
      have Hg := Lib.hid (boxi_gb hg)
      clear hg hb
      simp at c0 c1
      rw [hh]
      go_wp2_with fail
      refine (HP.out _).mono ?_
      rintro e w2 ⟨rfl, hg2⟩
      have d0 := hg2.cell c0 (by simp)
      have d1 := hg2.cell c1 (by simp)
      have Hg2 := Lib.hid (gb_trans Hg.out hg2)
      clear hg2 c0 c1
      go_wp2_with fail
      refine (implNodeAtV W H x (y + 1) r hN.symm _).mono ?_
      rintro e w3 ⟨rfl, hg3⟩
      have Hg3 := Lib.hid (gb_trans Hg2.out hg3)
      clear hg3
      go_wp2_with fail
      go_ret
      exact ⟨ret_int64 hN.symm, Hg3.out⟩
    by_cases p3 : p = 3
    · subst p3
      simp at hN
      go_enter Tryd.func104, Tryd.ntmps104
      go_wp2_with fail
      refine (implHasNode W H n _).mono ?_
      rintro e w1 ⟨rfl, hg⟩
      have hb := boxi_blk hg
      have c0 := hb.cell 0
      have c1 := hb.cell 1
      have Hg := Lib.hid (boxi_gb hg)
      clear hg hb
      simp at c0 c1
      rw [hh]
      go_wp2_with fail
      refine (HP.out _).mono ?_
      rintro e w2 ⟨rfl, hg2⟩
      have d0 := hg2.cell c0 (by simp)
      have d1 := hg2.cell c1 (by simp)
      have Hg2 := Lib.hid (gb_trans Hg.out hg2)
      clear hg2 c0 c1
      go_wp2_with fail
      refine (implNodeAtV W H (x - 1) y r hN.symm _).mono ?_
      rintro e w3 ⟨rfl, hg3⟩
      have Hg3 := Lib.hid (gb_trans Hg2.out hg3)
      clear hg3
      go_wp2_with fail
      go_ret
      exact ⟨ret_int64 hN.symm, Hg3.out⟩
    by_cases p4 : p = 4
    · subst p4
      simp at hN
      go_enter Tryd.func104, Tryd.ntmps104
      go_wp2_with fail
      refine (implHasNode W H n _).mono ?_
      rintro e w1 ⟨rfl, hg⟩
      have hb := boxi_blk hg
      have c0 := hb.cell 0
      have c1 := hb.cell 1
      have Hg := Lib.hid (boxi_gb hg)
      clear hg hb
      simp at c0 c1
      rw [hh]
      go_wp2_with fail
      refine (HP.out _).mono ?_
      rintro e w2 ⟨rfl, hg2⟩
      have d0 := hg2.cell c0 (by simp)
      have d1 := hg2.cell c1 (by simp)
      have Hg2 := Lib.hid (gb_trans Hg.out hg2)
      clear hg2 c0 c1
      go_wp2_with fail
      go_ret
      exact ⟨ret_int64 hN.symm, Hg2.out⟩
    simp [p0, p1, p2, p3, p4] at hN
    have q0 : (p == 0) = false := by simpa using p0
    have q1 : (p == 1) = false := by simpa using p1
    have q2 : (p == 2) = false := by simpa using p2
    have q3 : (p == 3) = false := by simpa using p3
    have q4 : (p == 4) = false := by simpa using p4
    clear p0 p1 p2 p3 p4
    go_enter Tryd.func104, Tryd.ntmps104
    go_wp2_with fail
    refine (implHasNode W H n _).mono ?_
    rintro e w1 ⟨rfl, hg⟩
    have hb := boxi_blk hg
    have c0 := hb.cell 0
    have c1 := hb.cell 1
    have Hg := Lib.hid (boxi_gb hg)
    clear hg hb
    simp at c0 c1
    rw [hh]
    go_wp2_with fail
    refine (HP.out _).mono ?_
    rintro e w2 ⟨rfl, hg2⟩
    have d0 := hg2.cell c0 (by simp)
    have d1 := hg2.cell c1 (by simp)
    have Hg2 := Lib.hid (gb_trans Hg.out hg2)
    clear hg2 c0 c1
    go_wp2_with fail
    go_ret
    exact ⟨ret_int64 hN.symm, Hg2.out⟩
  | false =>
    go_enter Tryd.func104, Tryd.ntmps104
    go_wp2_with fail
    refine (implHasNode W H n _).mono ?_
    rintro e w1 ⟨rfl, hg⟩
    rw [hh]
    go_wp2_with fail
    go_ret
    exact ⟨ret_int64 (by simp [nextG, hh]), boxi_gb hg⟩

theorem implNextNodeV (W H n p r : Int) (h : nextG W H n p = r) (w : World) :
    Calls Tryd.prog 104 #[.agg #[.int .i64 W, .int .i64 H], .int .i64 n, .int .i64 p] w (RetI r none w) := h ▸ implNextNode W H n p w

/-- Where a channel leads, by the rounding of the language. -/
def endG (W H c : Int) : Int := nextG W H (c.tdiv 4) (c.tmod 4)
theorem leads_end (W H c : Int) : leadsG W H c = decide (0 ≤ endG W H c) := by
  unfold leadsG endG
  by_cases h0 : 0 ≤ c
  · rw [Int.tdiv_eq_ediv_of_nonneg h0, Int.tmod_eq_emod_of_nonneg h0]
    refine decide_eq_decide.2 ⟨fun h => h.2.2, fun h => ⟨h0, ?_, h⟩⟩
    cases hh : hasG W H (c / 4) with
    | true => have := (hasG_iff.1 hh).2; omega
    | false => simp [nextG, hh] at h
  · refine decide_eq_decide.2 ⟨fun h => absurd h.1 h0, fun h => ?_⟩
    exfalso
    cases hh : hasG W H (c.tdiv 4) with
    | true =>
      have h1 := (hasG_iff.1 hh).1
      have h2 : c.tmod 4 < 0 := by
        have e := Int.mul_tdiv_add_tmod c 4
        omega
      rw [nextG_has (by omega)] at h
      omega
    | false => simp [nextG, hh] at h
theorem implEnd (W H c r : Int) (hc : (Lit.int .i64 c).wf = true) (hr : endG W H c = r) (w : World) :
    Calls Tryd.prog 99 #[.agg #[.int .i64 W, .int .i64 H], .int .i64 c] w (RetI r none w) := by
  have hb := bounds_i64 hc
  have hm : c.tmod 4 < 4 ∧ -4 < c.tmod 4 := ⟨Int.tmod_lt_of_pos _ (by omega), by have := Int.lt_tmod_of_pos c (b := 4) (by omega); omega⟩
  have hq : wrap64 (c.tdiv 4) = c.tdiv 4 := IntWalk.wrap64_in _ (by have := Int.mul_tdiv_add_tmod c 4; omega)
  clear hm
  have HC := Lib.hid (fun w => implNextNodeV W H (c.tdiv 4) (c.tmod 4) r hr w)
  clear hc hr hb
  go_enter Tryd.func99, Tryd.ntmps99
  go_wp2_with fail
  simp only [hq]
  refine (HC.out _).mono ?_
  rintro e w1 ⟨rfl, hg⟩
  have Hg := Lib.hid (boxi_gb hg)
  clear hg
  go_wp2_with fail
  go_ret
  exact ⟨rfl, Hg.out⟩
end Go.Proofs.YtidilfakganooaaDoor
end

section
namespace Go.Proofs.YtidilfakganooaaDoor
open Go.ChangeShapes Go.WideShapes Go.ChangeAt Go.RowKit
set_option linter.unusedVariables false

/-- The numbers of L have 64 bits. -/
def WfL (L : List Int) : Prop := ∀ x ∈ L, (Lit.int .i64 x).wf = true
theorem WfL.get {L : List Int} (h : WfL L) {k : Nat} {x : Int} (hk : k < L.length) (hx : L.getD k 0 = x) : (Lit.int .i64 x).wf = true := by
  rw [List.getD_eq_getElem?_getD, List.getElem?_eq_getElem hk] at hx
  simp only [Option.getD_some] at hx
  exact h x (hx ▸ List.getElem_mem hk)
theorem leads_wf {W H c : Int} (h : leadsG W H c = true) : (Lit.int .i64 c).wf = true := by
  have h1 : 0 ≤ c ∧ c < 4 * countG W H ∧ 0 ≤ nextG W H (c / 4) (c % 4) := by simpa [leadsG] using h
  have h2 := countG_le W H
  exact WalkArith.wf_i64 (by omega)
theorem mesh_wf {W H : Int} {L : List Int} (h : meshG W H L = true) : WfL L := fun x hx => by
  obtain ⟨j, hj, rfl⟩ := List.getElem_of_mem hx
  have h1 := (meshG_ok h).2 j hj
  simp only [goodAt, Bool.and_eq_true] at h1
  refine leads_wf (W := W) (H := H) ?_
  have := h1.1
  rw [List.getD_eq_getElem?_getD, List.getElem?_eq_getElem hj] at this
  exact this
end Go.Proofs.YtidilfakganooaaDoor
end

section
namespace Go.Proofs.YtidilfakganooaaDoor
open Go.ChangeShapes Go.WideShapes Go.ChangeAt Go.RowKit
set_option linter.unusedVariables false

theorem implMeshOk (W H : Int) (A : Option Addr) (n cap : Nat) (L : List Int) (hL : WfL L) (w : World) (h : IntAt w w.heap.size A n L) (hn : n ≤ 1000000000) :
    Calls Tryd.prog 97 #[.agg #[.int .i64 W, .int .i64 H, .slice A n cap]] w (RetB (meshG W H L) w) := by
  have hl := h.1
  have HI := Lib.hid h
  have HW := Lib.hid hL
  clear h hL
  cases hok : okG W H with
  | false =>
    go_enter Tryd.func97, Tryd.ntmps97
    go_wp2_with fail
    refine (implGridOk W H _).mono ?_
    rintro e w1 ⟨rfl, hg⟩
    rw [hok]
    go_wp2_with fail
    go_ret
    exact ⟨ret_bool (meshG_bad hok).symm, boxi_gb hg⟩
  | true =>
    go_enter Tryd.func97, Tryd.ntmps97
    go_wp2_with fail
    refine (implGridOk W H _).mono ?_
    rintro e w1 ⟨rfl, hg⟩
    have HM := Lib.hid (show MeshAt W H L A n cap w 0 w1 from ⟨goodTo_zero W H L, hg⟩)
    have hbk := boxi_blk hg
    have a2 : w1.cell? ⟨w.heap.size, 2, none⟩ = some (.slice A n cap) := hbk.cell 2
    clear hg hbk
    rw [hok]
    go_wp2_with fail
    clear a2
    go_loopw [12] (fun i wr => ∃ k : Nat, i = .int .i64 (k : Int) ∧ k ≤ n ∧ MeshAt W H L A n cap w k wr) (fun i _ => n - (intOf i).toNat)
    case atStart => exact ⟨0, rfl, Nat.zero_le _, HM.out⟩
    case round =>
      obtain ⟨k, rfl, hk, hgood, hg⟩ := hrel
      have HGo := Lib.hid hgood
      have HG := Lib.hid hg
      have hbk := boxi_blk hg
      have HBK := Lib.hid hbk
      have a0 : wr.cell? ⟨w.heap.size, 0, none⟩ = some (.int .i64 W) := hbk.cell 0
      have a1 : wr.cell? ⟨w.heap.size, 1, none⟩ = some (.int .i64 H) := hbk.cell 1
      have a2 : wr.cell? ⟨w.heap.size, 2, none⟩ = some (.slice A n cap) := hbk.cell 2
      have hia := HI.out.none (Nat.le_refl _) (boxi_gb hg)
      have HIA := Lib.hid hia
      clear hg hgood hbk
      by_cases hlt : k < n
      · obtain ⟨b, off, rfl, hb, hc⟩ := hia.at k hlt
        obtain ⟨x, hx⟩ : ∃ x, L.getD k 0 = x := ⟨_, rfl⟩
        rw [hx] at hc
        obtain ⟨r, hr⟩ : ∃ r, endG W H x = r := ⟨_, rfl⟩
        have HE := Lib.hid (fun w => implEnd W H x r (HW.out.get (by omega) hx) hr w)
        have hld := leads_end W H x
        rw [hr] at hld
        clear hia hr
        by_cases h0 : r < 0
        · have hbad := meshG_no (L := L) (i := k) (by omega) (goodAt_lead hx (by rw [hld]; exact decide_eq_false (by omega)))
          have HBad := Lib.hid hbad
          clear hx hld hbad
          go_wp2_with fail
          refine (HE.out _).mono ?_
          rintro e w2 ⟨rfl, hg2⟩
          have HG2 := Lib.hid (gb_trans (boxi_gb HG.out) hg2)
          clear hg2
          go_wp2_with fail
          go_ret
          exact ⟨ret_bool HBad.out.symm, HG2.out⟩
        · have hldt : leadsG W H x = true := by rw [hld]; exact decide_eq_true (by omega)
          clear hld
          cases k with
          | zero =>
            have HNx := Lib.hid (goodTo_succ HGo.out (goodAt_first hx hldt))
            have hc' : wr.cell? ⟨b, off, none⟩ = some (.int .i64 x) := hc
            clear hx hldt hc
            go_wp2_with fail
            refine (HE.out _).mono ?_
            rintro e w2 ⟨rfl, hg2⟩
            have HG2 := Lib.hid (gb_trans HG.out hg2)
            clear hg2
            go_wp2_with fail
            go_roundw
            case rel => exact ⟨1, by go_num, by omega, HNx.out, HG2.out⟩
            case measure => simp [intOf] <;> omega
          | succ j =>
            obtain ⟨b', off', hbe, _, hc2⟩ := HIA.out.at j (by omega)
            obtain ⟨rfl, rfl⟩ : b = b' ∧ off = off' := by injection hbe with h1; injection h1 with h2 h3; exact ⟨h2, h3⟩
            obtain ⟨y, hy⟩ : ∃ y, L.getD j 0 = y := ⟨_, rfl⟩
            rw [hy] at hc2
            have hga := goodAt_next hx hy hldt
            have HGA := Lib.hid hga
            clear hx hy hldt hga hbe
            go_wp2_with fail
            refine (HE.out _).mono ?_
            rintro e w2 ⟨rfl, hg2⟩
            have dc := hg2.cell hc (by simp)
            have dc2 := hg2.cell hc2 (by simp)
            have d2 := hg2.cell a2 (by simp)
            have HG2 := Lib.hid (gb_trans HG.out hg2)
            clear hg2 hc hc2 a0 a1 a2
            by_cases hyx : y < x
            · have hge : decide (y ≥ x) = false := decide_eq_false (by omega)
              have HNx := Lib.hid (goodTo_succ HGo.out (HGA.out.trans (decide_eq_true hyx)))
              clear hyx
              go_wp2_with fail
              go_roundw
              case rel => exact ⟨j + 2, by go_num, by omega, HNx.out, HG2.out⟩
              case measure => simp [intOf] <;> omega
            · have hge : decide (y ≥ x) = true := decide_eq_true (by omega)
              have HBad := Lib.hid (meshG_no (i := j + 1) (by omega) (HGA.out.trans (decide_eq_false hyx)))
              clear hyx
              go_wp2_with fail
              go_ret
              exact ⟨ret_bool HBad.out.symm, boxi_gb HG2.out⟩
      · obtain rfl : k = n := by omega
        clear hia
        go_wp2_with fail
        go_ret
        exact ⟨ret_bool (meshG_yes hok (by rw [hl]; exact HGo.out)).symm, boxi_gb HG.out⟩

theorem implMeshOkV (W H : Int) (A : Option Addr) (n cap : Nat) (L : List Int) (b : Bool) (hb : meshG W H L = b) (hL : WfL L) (w : World) (h : IntAt w w.heap.size A n L) (hn : n ≤ 1000000000) :
    Calls Tryd.prog 97 #[.agg #[.int .i64 W, .int .i64 H, .slice A n cap]] w (RetB b w) := hb ▸ implMeshOk W H A n cap L hL w h hn
end Go.Proofs.YtidilfakganooaaDoor
end

section
namespace Go.Proofs.YtidilfakganooaaDoor
open Go.ChangeShapes Go.WideShapes Go.ChangeAt Go.RowKit
set_option linter.unusedVariables false

/-- A mesh, a table and a square as blocks. -/
def thrB (W H : Int) (A A2 : Option Addr) (n cap n2 c2 : Nat) (w : World) : World :=
  ((w.alloc (.cells (meshC W H A n cap) 37)).alloc (.cells #[.slice A2 n2 c2] 30)).alloc (.cells (cellsX zerosX) 134)
section
variable {W H : Int} {A A2 : Option Addr} {n cap n2 c2 : Nat} {w wr : World}
theorem thrB_size : (thrB W H A A2 n cap n2 c2 w).heap.size = w.heap.size + 3 := by unfold thrB; rw [alloc_size, alloc_size, alloc_size]
theorem thrB_gb : w.grownBy (thrB W H A A2 n cap n2 c2 w) none := gb_alloc (gb_alloc (gb_alloc (gb_refl _ _) _) _) _
theorem thrB_mesh : Blk (thrB W H A A2 n cap n2 c2 w) w.heap.size 37 (meshC W H A n cap) := ((Blk.new w 37 (meshC W H A n cap)).alloc _).alloc _
theorem thrB_table : Blk (thrB W H A A2 n cap n2 c2 w) (w.heap.size + 1) 30 #[.slice A2 n2 c2] := by
  have := Blk.new (w.alloc (.cells (meshC W H A n cap) 37)) 30 #[.slice A2 n2 c2]
  rw [alloc_size] at this
  exact this.alloc _
theorem thrB_square : Blk (thrB W H A A2 n cap n2 c2 w) (w.heap.size + 2) 134 (cellsX (zerosX)) := by
  have := Blk.new ((w.alloc (.cells (meshC W H A n cap) 37)).alloc (.cells #[.slice A2 n2 c2] 30)) 134 (cellsX zerosX)
  rw [alloc_size, alloc_size] at this
  exact this
end

theorem implPortsNo (W H : Int) (A A2 : Option Addr) (n cap n2 c2 : Nat) (L P : List Int) (hL : WfL L) (w : World) (h : IntAt w w.heap.size A n L) (h2 : IntAt w w.heap.size A2 n2 P) (hn : n ≤ 1000000000) (hn2 : n2 ≤ 1000000000)
    (hs : sizedG W H L P = false) :
    Calls Tryd.prog 85 #[.agg #[.int .i64 W, .int .i64 H, .slice A n cap], .agg #[.slice A2 n2 c2]] w (RetX (zerosX) false w) := by
  have hp := h2.1
  have HI := Lib.hid (h.none (Nat.le_refl _) (thrB_gb (W := W) (H := H) (A := A) (A2 := A2) (n := n) (cap := cap) (n2 := n2) (c2 := c2)))
  clear h h2
  obtain ⟨k, hk⟩ : ∃ k, countG W H = k := ⟨_, rfl⟩
  obtain ⟨hk0, hk1⟩ := countG_le W H
  rw [hk] at hk0 hk1
  have HN := Lib.hid (fun w => show Calls Tryd.prog 26 #[.agg #[.int .i64 W, .int .i64 H]] w (RetI k none w) from hk ▸ implNodeCount W H w)
  have TM := Lib.hid (thrB_mesh (W := W) (H := H) (A := A) (A2 := A2) (n := n) (cap := cap) (n2 := n2) (c2 := c2) (w := w))
  have TT := Lib.hid (thrB_table (W := W) (H := H) (A := A) (A2 := A2) (n := n) (cap := cap) (n2 := n2) (c2 := c2) (w := w))
  have TS := Lib.hid (thrB_square (W := W) (H := H) (A := A) (A2 := A2) (n := n) (cap := cap) (n2 := n2) (c2 := c2) (w := w))
  have TG := Lib.hid (thrB_gb (W := W) (H := H) (A := A) (A2 := A2) (n := n) (cap := cap) (n2 := n2) (c2 := c2) (w := w))
  have TZ := Lib.hid (thrB_size (W := W) (H := H) (A := A) (A2 := A2) (n := n) (cap := cap) (n2 := n2) (c2 := c2) (w := w))
  cases hm : meshG W H L with
  | false =>
    have HK := Lib.hid (fun w h => implMeshOkV W H A n cap L false hm hL w h hn)
    clear hm hL hs hk
    go_enter Tryd.func85, Tryd.ntmps85
    go_wp2_with fail
    refine (HN.out _).mono ?_
    rintro e w1 ⟨rfl, hg⟩
    rw [zero_cells] at hg
    have hg1 : (thrB W H A A2 n cap n2 c2 w).grownBy w1 none := hg
    have hbk := TM.out.grown hg1 (by simp)
    have a0 : w1.cell? ⟨w.heap.size, 0, none⟩ = some (.int .i64 W) := hbk.cell 0
    have a1 : w1.cell? ⟨w.heap.size, 1, none⟩ = some (.int .i64 H) := hbk.cell 1
    have a2 : w1.cell? ⟨w.heap.size, 2, none⟩ = some (.slice A n cap) := hbk.cell 2
    have hi := (HI.out.none (by rw [TZ.out]; omega) hg1).more (B' := w1.heap.size) (gb_trans TG.out hg1).size
    have HG := Lib.hid hg1
    clear hg hg1 hbk
    go_wp2_with fail
    refine (HK.out _ hi).mono ?_
    rintro e w2 ⟨rfl, hg2⟩
    have HG2 := Lib.hid (gb_trans HG.out hg2)
    have HSq := Lib.hid (TS.out.grown HG2.out (by simp))
    clear hg2 hi a0 a1 a2
    go_wp2_with (refine wpList_storeX rfl _ _ rfl (w.heap.size + 1 + 1) zerosX zerosX rfl (congrArg Value.agg zero_cells) HSq.out zerosX_length zerosX_length ?_; intro w3 hb3 hg3; have HB3 := Lib.hid hb3; have HG3 := Lib.hid hg3; clear hb3 hg3)
    refine bodyPost_ret (v := .tuple #[.agg (cellsX zerosX), .bool false]) ?_ rfl ⟨rfl, gb_new (gb_trans TG.out HG2.out) HG3.out (by omega)⟩
    rw [results_cell_tmp rfl]
    simp [asAddr, Result.andThen, load_square HB3.out zerosX_length]
  | true =>
    have hsq : ¬ (n2 : Int) = k * k := fun e => by
      have : sizedG W H L P = true := by simp [sizedG, hm, hk, hp, e]
      rw [hs] at this; cases this
    have hkk0 : 0 ≤ k * k := Int.mul_nonneg hk0 hk0
    have hkk1 : k * k ≤ 256 := Int.le_trans (Int.mul_le_mul hk1 hk1 hk0 (by omega)) (by omega)
    obtain ⟨q, hq⟩ : ∃ q, k * k = q := ⟨_, rfl⟩
    rw [hq] at hkk0 hkk1 hsq
    have e1 : wrap64 (k * k) = q := by rw [hq]; exact IntWalk.wrap64_in _ (by omega)
    have hb : ((n2 : Int) != q) = true := by simpa using hsq
    have HK := Lib.hid (fun w h => implMeshOkV W H A n cap L true hm hL w h hn)
    clear hm hL hs hk hq
    go_enter Tryd.func85, Tryd.ntmps85
    go_wp2_with fail
    refine (HN.out _).mono ?_
    rintro e w1 ⟨rfl, hg⟩
    rw [zero_cells] at hg
    have hg1 : (thrB W H A A2 n cap n2 c2 w).grownBy w1 none := hg
    have hbk := TM.out.grown hg1 (by simp)
    have a0 : w1.cell? ⟨w.heap.size, 0, none⟩ = some (.int .i64 W) := hbk.cell 0
    have a1 : w1.cell? ⟨w.heap.size, 1, none⟩ = some (.int .i64 H) := hbk.cell 1
    have a2 : w1.cell? ⟨w.heap.size, 2, none⟩ = some (.slice A n cap) := hbk.cell 2
    have hi := (HI.out.none (by rw [TZ.out]; omega) hg1).more (B' := w1.heap.size) (gb_trans TG.out hg1).size
    have HG := Lib.hid hg1
    clear hg hg1 hbk
    go_wp2_with fail
    refine (HK.out _ hi).mono ?_
    rintro e w2 ⟨rfl, hg2⟩
    have HG2 := Lib.hid (gb_trans HG.out hg2)
    have HSq := Lib.hid (TS.out.grown HG2.out (by simp))
    have b0 : w2.cell? ⟨w.heap.size + 1, 0, none⟩ = some (.slice A2 n2 c2) := (TT.out.grown HG2.out (by simp)).cell 0
    clear hg2 hi a0 a1 a2
    go_wp2_with (refine wpList_storeX rfl _ _ rfl (w.heap.size + 1 + 1) zerosX zerosX rfl (congrArg Value.agg zero_cells) HSq.out zerosX_length zerosX_length ?_; intro w3 hb3 hg3; have HB3 := Lib.hid hb3; have HG3 := Lib.hid hg3; clear hb3 hg3)
    refine bodyPost_ret (v := .tuple #[.agg (cellsX zerosX), .bool false]) ?_ rfl ⟨rfl, gb_new (gb_trans TG.out HG2.out) HG3.out (by omega)⟩
    rw [results_cell_tmp rfl]
    simp [asAddr, Result.andThen, load_square HB3.out zerosX_length]

/-- The square after j entries, in a block of the call's own. -/
def PortsAt (W H : Int) (A A2 : Option Addr) (n cap n2 c2 : Nat) (P : List Int) (w : World) (g j : Nat) (wr : World) : Prop :=
  Blk wr g 134 (cellsX (portsX W H P j)) ∧ (thrB W H A A2 n cap n2 c2 w).grownBy wr none

theorem implPortsYes (W H : Int) (A A2 : Option Addr) (n cap n2 c2 : Nat) (L P : List Int) (hL : WfL L) (w : World) (h : IntAt w w.heap.size A n L) (h2 : IntAt w w.heap.size A2 n2 P) (hn : n ≤ 1000000000) (hn2 : n2 ≤ 1000000000)
    (hs : sizedG W H L P = true) :
    Calls Tryd.prog 85 #[.agg #[.int .i64 W, .int .i64 H, .slice A n cap], .agg #[.slice A2 n2 c2]] w (RetX (portsX W H P P.length) true w) := by
  have hp := h2.1
  have HI := Lib.hid (h.none (Nat.le_refl _) (thrB_gb (W := W) (H := H) (A := A) (A2 := A2) (n := n) (cap := cap) (n2 := n2) (c2 := c2)))
  have HP := Lib.hid (h2.none (Nat.le_refl _) (thrB_gb (W := W) (H := H) (A := A) (A2 := A2) (n := n) (cap := cap) (n2 := n2) (c2 := c2)))
  clear h h2
  obtain ⟨k, hk⟩ : ∃ k, cntN W H = k := ⟨_, rfl⟩
  have hki := cntN_int W H
  have hk1 := cntN_le W H
  rw [hk] at hki hk1
  have hsz := (sizedG_mesh hs).2
  have hm := (sizedG_mesh hs).1
  rw [hp, ← hki] at hsz
  have HN := Lib.hid (fun w => show Calls Tryd.prog 26 #[.agg #[.int .i64 W, .int .i64 H]] w (RetI (k : Int) none w) from hki ▸ implNodeCount W H w)
  have HK := Lib.hid (fun w h => implMeshOkV W H A n cap L true hm hL w h hn)
  have TM := Lib.hid (thrB_mesh (W := W) (H := H) (A := A) (A2 := A2) (n := n) (cap := cap) (n2 := n2) (c2 := c2) (w := w))
  have TT := Lib.hid (thrB_table (W := W) (H := H) (A := A) (A2 := A2) (n := n) (cap := cap) (n2 := n2) (c2 := c2) (w := w))
  have TS := Lib.hid (thrB_square (W := W) (H := H) (A := A) (A2 := A2) (n := n) (cap := cap) (n2 := n2) (c2 := c2) (w := w))
  have TG := Lib.hid (thrB_gb (W := W) (H := H) (A := A) (A2 := A2) (n := n) (cap := cap) (n2 := n2) (c2 := c2) (w := w))
  have TZ := Lib.hid (thrB_size (W := W) (H := H) (A := A) (A2 := A2) (n := n) (cap := cap) (n2 := n2) (c2 := c2) (w := w))
  have hkk1 : (k : Int) * k ≤ 256 := Int.le_trans (Int.mul_le_mul (Int.ofNat_le.2 hk1) (Int.ofNat_le.2 hk1) (by omega) (by omega)) (by omega)
  have hn256 : n2 ≤ 256 := by omega
  have e1 : wrap64 ((k : Int) * k) = (n2 : Int) := by rw [← hsz]; exact IntWalk.wrap64_in _ (by omega)
  have hb : ((n2 : Int) != (n2 : Int)) = false := by simp
  have HSZ := Lib.hid (show n2 = k * k by exact_mod_cast hsz)
  have HKK := Lib.hid hk
  have HPL := Lib.hid hp
  clear hm hL hs hk hki hsz hkk1 hp
  go_enter Tryd.func85, Tryd.ntmps85
  go_wp2_with fail
  refine (HN.out _).mono ?_
  rintro e w1 ⟨rfl, hg⟩
  rw [zero_cells] at hg
  have hg1 : (thrB W H A A2 n cap n2 c2 w).grownBy w1 none := hg
  have hbk := TM.out.grown hg1 (by simp)
  have a0 : w1.cell? ⟨w.heap.size, 0, none⟩ = some (.int .i64 W) := hbk.cell 0
  have a1 : w1.cell? ⟨w.heap.size, 1, none⟩ = some (.int .i64 H) := hbk.cell 1
  have a2 : w1.cell? ⟨w.heap.size, 2, none⟩ = some (.slice A n cap) := hbk.cell 2
  have hi := (HI.out.none (by rw [TZ.out]; omega) hg1).more (B' := w1.heap.size) (gb_trans TG.out hg1).size
  have HG := Lib.hid hg1
  clear hg hg1 hbk
  go_wp2_with fail
  refine (HK.out _ hi).mono ?_
  rintro e w2 ⟨rfl, hg2⟩
  have HG2 := Lib.hid (gb_trans HG.out hg2)
  have HSq := Lib.hid (TS.out.grown HG2.out (by simp))
  have b0 : w2.cell? ⟨w.heap.size + 1, 0, none⟩ = some (.slice A2 n2 c2) := (TT.out.grown HG2.out (by simp)).cell 0
  have b1 : (w2.alloc (.cells Tryd.zeroCells134 134)).cell? ⟨w.heap.size + 1, 0, none⟩ = some (.slice A2 n2 c2) := ((TT.out.grown HG2.out (by simp)).alloc _).cell 0
  have HB2 := Lib.hid (show w.heap.size + 3 ≤ w2.heap.size by have := HG2.out.size; rw [TZ.out] at this; exact this)
  clear hg2 hi a0 a1 a2
  go_wp2_with fail
  obtain ⟨g, hg⟩ : ∃ g, w2.heap.size = g := ⟨_, rfl⟩
  rw [zero_cells]
  have HX := Lib.hid (show PortsAt W H A A2 n cap n2 c2 P w g 0 (w2.alloc (.cells (cellsX zerosX) 134)) from ⟨hg ▸ Blk.new w2 134 (cellsX zerosX), gb_alloc HG2.out _⟩)
  rw [hg, e1]
  have HGE := Lib.hid (show w.heap.size + 3 ≤ g by rw [← hg]; exact HB2.out)
  clear hg b0 b1 e1 hb
  go_loopw [29] (fun i wr => ∃ j : Nat, i = .int .i64 (j : Int) ∧ j ≤ n2 ∧ PortsAt W H A A2 n cap n2 c2 P w g j wr) (fun i _ => n2 - (intOf i).toNat)
  case atStart => exact ⟨0, rfl, Nat.zero_le _, HX.out⟩
  case round =>
    obtain ⟨j, rfl, hj, hblk, hgr⟩ := hrel
    have HBk := Lib.hid hblk
    have HGr := Lib.hid hgr
    clear hgr hblk
    by_cases hlt : j < n2
    · have hsz := HSZ.out
      have hk0 : 0 < k := Nat.pos_of_ne_zero fun e => by rw [e] at hsz; omega
      obtain ⟨b, off, rfl, hbB, hcell⟩ := (HP.out.none (by rw [TZ.out]; omega) HGr.out).at j hlt
      obtain ⟨p, hpp⟩ : ∃ p, P.getD j 0 = p := ⟨_, rfl⟩
      rw [hpp] at hcell
      obtain ⟨x, hx⟩ : ∃ x, j / k = x := ⟨_, rfl⟩
      obtain ⟨y, hy⟩ : ∃ y, j % k = y := ⟨_, rfl⟩
      have hx1 : x < k := by rw [← hx]; exact Nat.div_lt_of_lt_mul (by rw [← hsz]; exact hlt)
      have hy1 : y < k := by rw [← hy]; exact Nat.mod_lt _ hk0
      have d1 : Int.tdiv (j : Int) (k : Int) = (x : Int) := by rw [← hx]; rfl
      have d2 : Int.tmod (j : Int) (k : Int) = (y : Int) := by rw [← hy]; rfl
      have hx16 : (x : Int) < 16 := by omega
      have hy16 : (y : Int) < 16 := by omega
      obtain ⟨o, ho⟩ : ∃ o, (portsX W H P j).getD (16 * x + y) 0 = o := ⟨_, rfl⟩
      have c1 : wr.cell? ⟨g, x * 16 + y, none⟩ = some (.int .i64 o) := by rw [Nat.mul_comm x 16]; exact (HBk.out.cell (16 * x + y)).trans (cellsX_at (by rw [portsX, sqTo_length]; omega) ho)
      have f1 := HBk.out.frozen (x * 16 + y)
      have hb2 := HBk.out.set_ (x * 16 + y) (.int .i64 (portP p))
      rw [cellsX_set, show (portsX W H P j).set (x * 16 + y) (portP p) = portsX W H P (j + 1) by rw [portsX, portsX, sqTo, HKK.out, hx, hy, hpp, Nat.mul_comm x 16]] at hb2
      have HB2x := Lib.hid hb2
      have HG2x := Lib.hid (gb_setCell HGr.out (p := ⟨g, x * 16 + y, none⟩) (.inr (by rw [TZ.out]; exact HGE.out)) (.int .i64 (portP p)))
      clear hb2 hx hy hpp ho hsz
      by_cases hp0 : p < 0
      · rw [portP_out (.inl hp0)] at HB2x HG2x
        go_wp2_with fail
        go_region
        go_wp2_with fail
        go_roundw
        case rel => exact ⟨j + 1, by go_num, by omega, HB2x.out.drewN 1, gb_drew HG2x.out⟩
        case measure => simp [intOf]; omega
      · by_cases hp4 : 4 < p
        · rw [portP_out (.inr hp4)] at HB2x HG2x
          go_wp2_with fail
          go_region
          go_wp2_with fail
          go_roundw
          case rel => exact ⟨j + 1, by go_num, by omega, HB2x.out.drewN 1, gb_drew HG2x.out⟩
          case measure => simp [intOf]; omega
        · rw [portP_in (by omega) (by omega)] at HB2x HG2x
          go_wp2_with fail
          go_region
          go_wp2_with fail
          go_roundw
          case rel => exact ⟨j + 1, by go_num, by omega, HB2x.out.drewN 1, gb_drew HG2x.out⟩
          case measure => simp [intOf]; omega
    · obtain rfl : j = n2 := by omega
      go_wp2_with (first | (refine wpList_loadX rfl _ rfl g rfl (portsX W H P j) HBk.out (sqTo_length _ _ _) ?_) | (refine wpList_storeX rfl _ _ rfl (w.heap.size + 1 + 1) zerosX (portsX W H P j) rfl rfl ((TS.out.grown HGr.out (by simp))) zerosX_length (sqTo_length _ _ _) ?_; intro w3 hb3 hg3; have HB3 := Lib.hid hb3; have HG3 := Lib.hid hg3; clear hb3 hg3))
      refine bodyPost_ret (v := .tuple #[.agg (cellsX (portsX W H P j)), .bool true]) ?_ rfl ⟨by rw [HPL.out], gb_new (gb_trans TG.out HGr.out) HG3.out (by omega)⟩
      rw [results_cell_tmp rfl]
      simp [asAddr, Result.andThen, load_square HB3.out (sqTo_length _ _ _)]
end Go.Proofs.YtidilfakganooaaDoor
end

section
namespace Go.Proofs.YtidilfakganooaaDoor
open Go.ChangeShapes Go.WideShapes Go.ChangeAt Go.RowKit
set_option linter.unusedVariables false

/-- A mesh and a table as blocks. -/
def twoI (W H : Int) (A A2 : Option Addr) (n cap n2 c2 : Nat) (w : World) : World := (w.alloc (.cells (meshC W H A n cap) 37)).alloc (.cells #[.slice A2 n2 c2] 30)
section
variable {W H : Int} {A A2 : Option Addr} {n cap n2 c2 : Nat} {w wr : World}
theorem twoI_size : (twoI W H A A2 n cap n2 c2 w).heap.size = w.heap.size + 2 := by unfold twoI; rw [alloc_size, alloc_size]
theorem twoI_gb : w.grownBy (twoI W H A A2 n cap n2 c2 w) none := gb_alloc (gb_alloc (gb_refl _ _) _) _
theorem twoI_mesh (h : (twoI W H A A2 n cap n2 c2 w).grownBy wr none) : Blk wr w.heap.size 37 (meshC W H A n cap) := ((Blk.new w 37 (meshC W H A n cap)).alloc _).grown h (by simp)
theorem twoI_table (h : (twoI W H A A2 n cap n2 c2 w).grownBy wr none) : Blk wr (w.heap.size + 1) 30 #[.slice A2 n2 c2] := by
  have := Blk.new (w.alloc (.cells (meshC W H A n cap) 37)) 30 #[.slice A2 n2 c2]
  rw [alloc_size] at this
  exact this.grown h (by simp)
theorem twoI_le (h : (twoI W H A A2 n cap n2 c2 w).grownBy wr none) : w.heap.size + 2 ≤ wr.heap.size := by have := h.size; rw [twoI_size] at this; exact this
theorem twoI_old (h : (twoI W H A A2 n cap n2 c2 w).grownBy wr none) : w.grownBy wr none := gb_trans twoI_gb h
theorem IntAt.twoI {B : Option Addr} {m : Nat} {M : List Int} (h : IntAt w w.heap.size B m M) : IntAt (twoI W H A A2 n cap n2 c2 w) (twoI W H A A2 n cap n2 c2 w).heap.size B m M :=
  (h.none (Nat.le_refl _) twoI_gb).more (by rw [twoI_size]; omega)
theorem IntAt.oldI {B : Option Addr} {m : Nat} {M : List Int} (h : IntAt w w.heap.size B m M) (hg : w.grownBy wr Option.none) : IntAt wr wr.heap.size B m M :=
  (h.none (Nat.le_refl _) hg).more hg.size
end
/-- The new block of a square. -/
theorem new_square (w : World) : Blk (w.alloc (.cells Tryd.zeroCells134 134)) w.heap.size 134 (cellsX zerosX) := by
  rw [← zero_cells]; exact Blk.new w _ _
theorem gb_square {a b c : World} (h : a.grownBy b none) (k : (b.alloc (.cells Tryd.zeroCells134 134)).grownBy c (some b.heap.size)) : a.grownBy c none :=
  gb_new (gb_alloc h _) k h.size
end Go.Proofs.YtidilfakganooaaDoor
end

section
namespace Go.Proofs.YtidilfakganooaaDoor
open Go.ChangeShapes Go.WideShapes Go.ChangeAt Go.RowKit
set_option linter.unusedVariables false

abbrev Dep := Int × Int
def ltD (a b : Dep) : Bool := decide (a.1 < b.1 ∨ a.1 = b.1 ∧ a.2 < b.2)
theorem ltD_iff {a b : Dep} : ltD a b = true ↔ (a.1 < b.1 ∨ a.1 = b.1 ∧ a.2 < b.2) := by unfold ltD; exact decide_eq_true_iff
theorem ltD_no {a b : Dep} : ltD a b = false ↔ ¬ (a.1 < b.1 ∨ a.1 = b.1 ∧ a.2 < b.2) := by unfold ltD; exact decide_eq_false_iff_not
theorem ltD_irrefl (a : Dep) : ltD a a = false := ltD_no.2 (by omega)
theorem ltD_trans {a b c : Dep} (h : ltD a b = true) (k : ltD b c = true) : ltD a c = true := by
  rw [ltD_iff] at *; omega
theorem ltD_asymm {a b : Dep} (h : ltD a b = true) : ltD b a = false := by
  rw [ltD_iff] at h; rw [ltD_no]; omega
theorem ltD_tri {a b : Dep} (h : ltD a b = false) (k : a ≠ b) : ltD b a = true := by
  rw [ltD_no] at h; rw [ltD_iff]
  have : ¬ (a.1 = b.1 ∧ a.2 = b.2) := fun e => k (Prod.ext e.1 e.2)
  omega
/-- The comparison as a number. -/
def cmpI (x y : Int) : Int := if x < y then -1 else if y < x then 1 else 0
def cmpD (a b : Dep) : Int := if cmpI a.1 b.1 ≠ 0 then cmpI a.1 b.1 else cmpI a.2 b.2
theorem cmpI_zero {x y : Int} : cmpI x y = 0 ↔ x = y := by unfold cmpI; split <;> (try split) <;> omega
theorem cmpI_neg {x y : Int} : cmpI x y < 0 ↔ x < y := by unfold cmpI; split <;> (try split) <;> omega
theorem cmpD_neg {a b : Dep} : cmpD a b < 0 ↔ ltD a b = true := by
  rw [ltD_iff]
  unfold cmpD cmpI
  repeat' split
  all_goals omega
theorem cmpD_zero {a b : Dep} : cmpD a b = 0 ↔ a = b := by
  rw [Prod.ext_iff]
  unfold cmpD cmpI
  repeat' split
  all_goals omega
theorem cmpD_range (a b : Dep) : -1 ≤ cmpD a b ∧ cmpD a b ≤ 1 := by
  unfold cmpD cmpI
  repeat' split
  all_goals omega

def ascD (D : List Dep) : Prop := D.Pairwise (fun a b => ltD a b = true)
instance (D : List Dep) : Decidable (ascD D) := inferInstanceAs (Decidable (List.Pairwise _ _))
def atD (D : List Dep) (k : Nat) : Dep := D.getD k (0, 0)
theorem atD_get {D : List Dep} {k : Nat} (h : k < D.length) : atD D k = D[k] := by
  rw [atD, List.getD_eq_getElem?_getD, List.getElem?_eq_getElem h]; rfl
theorem atD_mem {D : List Dep} {k : Nat} (h : k < D.length) : atD D k ∈ D := by rw [atD_get h]; exact List.getElem_mem h
theorem atD_ex {D : List Dep} {d : Dep} (h : d ∈ D) : ∃ k, k < D.length ∧ atD D k = d := by
  obtain ⟨k, hk, e⟩ := List.getElem_of_mem h
  exact ⟨k, hk, by rw [atD_get hk, e]⟩
theorem asc_at {D : List Dep} (h : ascD D) {i j : Nat} (hij : i < j) (hj : j < D.length) : ltD (atD D i) (atD D j) = true := by
  rw [atD_get (by omega), atD_get hj]
  exact (List.pairwise_iff_getElem.1 h) i j (by omega) hj hij
theorem asc_of {D : List Dep} (h : ∀ i, i + 1 < D.length → ltD (atD D i) (atD D (i + 1)) = true) : ascD D := by
  rw [ascD, List.pairwise_iff_getElem]
  intro i j hi hj hij
  have key : ∀ t, i + t + 1 < D.length → ltD (atD D i) (atD D (i + t + 1)) = true := by
    intro t
    induction t with
    | zero => exact h i
    | succ t ih => exact fun ht => ltD_trans (ih (by omega)) (h (i + t + 1) ht)
  have := key (j - i - 1) (by omega)
  rw [show i + (j - i - 1) + 1 = j by omega, atD_get hi, atD_get hj] at this
  exact this
/-- Strictly ascending lists with the same elements are the same. -/
theorem asc_ext : ∀ (A B : List Dep), ascD A → ascD B → (∀ x, x ∈ A ↔ x ∈ B) → A = B
  | [], [], _, _, _ => rfl
  | [], b :: B, _, _, h => by have := (h b).2 (List.mem_cons_self ..); cases this
  | a :: A, [], _, _, h => by have := (h a).1 (List.mem_cons_self ..); cases this
  | a :: A, b :: B, hA, hB, h => by
    obtain ⟨ha, hA'⟩ := List.pairwise_cons.1 hA
    obtain ⟨hb, hB'⟩ := List.pairwise_cons.1 hB
    have e : a = b := by
      rcases List.mem_cons.1 ((h a).1 (List.mem_cons_self ..)) with e | h1
      · exact e
      · rcases List.mem_cons.1 ((h b).2 (List.mem_cons_self ..)) with e | h2
        · exact e.symm
        · have h3 := hb a h1; have h4 := ltD_asymm (ha b h2); rw [h4] at h3; cases h3
    subst e
    rw [asc_ext A B hA' hB' (fun x => ⟨fun hx => by
      rcases List.mem_cons.1 ((h x).1 (List.mem_cons_of_mem _ hx)) with e | h1
      · have := ha x hx; rw [e, ltD_irrefl] at this; cases this
      · exact h1, fun hx => by
      rcases List.mem_cons.1 ((h x).2 (List.mem_cons_of_mem _ hx)) with e | h1
      · have := hb x hx; rw [e, ltD_irrefl] at this; cases this
      · exact h1⟩)]

/-- How many elements at the head come before d. -/
def lowN (D : List Dep) (d : Dep) : Nat := (D.takeWhile (fun x => ltD x d)).length
theorem lowN_le (D : List Dep) (d : Dep) : lowN D d ≤ D.length := by
  unfold lowN
  exact (List.takeWhile_prefix _).length_le
theorem lowN_of : ∀ {D : List Dep} {d : Dep} {i : Nat}, i ≤ D.length → (∀ t, t < i → ltD (atD D t) d = true) → (i < D.length → ltD (atD D i) d = false) → lowN D d = i
  | [], d, i, hi, _, _ => by simp at hi; subst hi; rfl
  | a :: D, d, 0, hi, h1, h2 => by
    have := h2 (by simp)
    have : ltD a d = false := this
    simp [lowN, this]
  | a :: D, d, i + 1, hi, h1, h2 => by
    have h0 : ltD a d = true := h1 0 (by omega)
    have ih := lowN_of (D := D) (d := d) (i := i) (by simpa using hi) (fun t ht => h1 (t + 1) (by omega)) (fun hlt => h2 (by simpa using hlt))
    unfold lowN at ih ⊢
    simp [h0, ih]
theorem lowN_yes : ∀ {D : List Dep} {d : Dep} {t : Nat}, t < lowN D d → ltD (atD D t) d = true
  | [], d, t, h => by simp [lowN] at h
  | a :: D, d, t, h => by
    unfold lowN at h
    cases ha : ltD a d with
    | false => simp [ha] at h
    | true =>
      simp [ha] at h
      cases t with
      | zero => exact ha
      | succ t => exact lowN_yes (D := D) (d := d) (t := t) (by unfold lowN; omega)
theorem lowN_no : ∀ {D : List Dep} {d : Dep}, lowN D d < D.length → ltD (atD D (lowN D d)) d = false
  | [], d, h => by simp at h
  | a :: D, d, h => by
    cases ha : ltD a d with
    | false =>
      have e : lowN (a :: D) d = 0 := by simp [lowN, ha]
      rw [e]; exact ha
    | true =>
      have e : lowN (a :: D) d = lowN D d + 1 := by simp [lowN, ha]
      rw [e] at h ⊢
      exact lowN_no (D := D) (d := d) (by simpa using h)
theorem lowN_rest {D : List Dep} (hD : ascD D) {d : Dep} {t : Nat} (h : lowN D d ≤ t) (ht : t < D.length) : ltD (atD D t) d = false := by
  have h0 := lowN_no (D := D) (d := d) (by omega)
  by_cases e : lowN D d = t
  · rw [← e]; exact h0
  · have h1 := asc_at hD (show lowN D d < t by omega) ht
    cases h2 : ltD (atD D t) d with
    | false => rfl
    | true => rw [ltD_trans h1 h2] at h0; cases h0

/-- The list with d at its place, unless it is there. -/
def putD (D : List Dep) (d : Dep) : List Dep := D.take (lowN D d) ++ d :: D.drop (lowN D d)
def insD (D : List Dep) (d : Dep) : List Dep := if d ∈ D then D else putD D d
theorem ins_there {D : List Dep} {d : Dep} (h : d ∈ D) : insD D d = D := if_pos h
theorem ins_new {D : List Dep} {d : Dep} (h : d ∉ D) : insD D d = putD D d := if_neg h
/-- In an ascending list, d can stand at its place alone. -/
theorem there_iff {D : List Dep} (hD : ascD D) {d : Dep} : d ∈ D ↔ lowN D d < D.length ∧ atD D (lowN D d) = d := by
  constructor
  · intro h
    obtain ⟨k, hk, e⟩ := atD_ex h
    have h1 : ¬ k < lowN D d := fun h1 => by have := lowN_yes h1; rw [e, ltD_irrefl] at this; cases this
    have h2 : lowN D d = k := by
      rcases Nat.lt_or_eq_of_le (Nat.le_of_not_lt h1) with h2 | h2
      · have h3 := asc_at hD h2 hk
        rw [e] at h3
        have h4 := lowN_no (D := D) (d := d) (by omega)
        rw [h3] at h4; cases h4
      · exact h2
    rw [h2]; exact ⟨hk, e⟩
  · rintro ⟨h, e⟩
    rw [← e]; exact atD_mem h
theorem mem_put {D : List Dep} {d x : Dep} : x ∈ putD D d ↔ x = d ∨ x ∈ D := by
  unfold putD
  rw [List.mem_append, List.mem_cons]
  have : x ∈ D ↔ x ∈ D.take (lowN D d) ∨ x ∈ D.drop (lowN D d) := by rw [← List.mem_append, List.take_append_drop]
  rw [this]
  constructor
  · rintro (h | h | h)
    · exact .inr (.inl h)
    · exact .inl h
    · exact .inr (.inr h)
  · rintro (h | h | h)
    · exact .inr (.inl h)
    · exact .inl h
    · exact .inr (.inr h)
theorem mem_ins {D : List Dep} {d x : Dep} : x ∈ insD D d ↔ x = d ∨ x ∈ D := by
  unfold insD
  split
  · rename_i h
    exact ⟨.inr, fun e => e.elim (fun e => e ▸ h) id⟩
  · exact mem_put
theorem put_length (D : List Dep) (d : Dep) : (putD D d).length = D.length + 1 := by
  have := lowN_le D d
  simp [putD]; omega
theorem ins_length (D : List Dep) (d : Dep) : (insD D d).length ≤ D.length + 1 ∧ D.length ≤ (insD D d).length := by
  unfold insD
  split
  · omega
  · rw [put_length]; omega
theorem ins_asc {D : List Dep} (hD : ascD D) (d : Dep) : ascD (insD D d) := by
  unfold insD
  split
  · exact hD
  · rename_i hn
    have key : ∀ x ∈ D.drop (lowN D d), ltD d x = true := fun x hx => by
      obtain ⟨k, hk, e⟩ := List.getElem_of_mem hx
      have hk' : lowN D d + k < D.length := by simp at hk; omega
      have e' : atD D (lowN D d + k) = x := by rw [atD_get hk', ← e, List.getElem_drop]
      have := lowN_rest hD (d := d) (t := lowN D d + k) (by omega) hk'
      rw [e'] at this
      exact ltD_tri this (fun e2 => hn (by rw [← e2]; exact List.mem_of_mem_drop hx))
    refine List.pairwise_append.2 ⟨hD.sublist (List.take_sublist _ _), List.pairwise_cons.2 ⟨key, hD.sublist (List.drop_sublist _ _)⟩, ?_⟩
    intro a ha b hb
    have had : ltD a d = true := by
      obtain ⟨k, hk, e⟩ := List.getElem_of_mem ha
      have hk' : k < lowN D d := by simp at hk; omega
      have hl := lowN_le D d
      have e' : atD D k = a := by rw [atD_get (by omega), ← e, List.getElem_take]
      have := lowN_yes hk'
      rw [e'] at this; exact this
    rcases List.mem_cons.1 hb with rfl | hb
    · exact had
    · exact ltD_trans had (key b hb)
/-- What a list becomes by inserting others. -/
def insAll (D E : List Dep) : List Dep := E.foldl insD D
theorem insAll_asc {D : List Dep} (hD : ascD D) (E : List Dep) : ascD (insAll D E) := by
  induction E generalizing D with
  | nil => exact hD
  | cons e E ih => exact ih (ins_asc hD e)
theorem mem_insAll {D E : List Dep} {x : Dep} : x ∈ insAll D E ↔ x ∈ D ∨ x ∈ E := by
  induction E generalizing D with
  | nil => simp [insAll]
  | cons e E ih =>
    rw [insAll, List.foldl_cons]
    have := ih (D := insD D e)
    rw [insAll] at this
    rw [this, mem_ins, List.mem_cons]
    constructor
    · rintro ((h | h) | h)
      · exact .inr (.inl h)
      · exact .inl h
      · exact .inr (.inr h)
    · rintro (h | h | h)
      · exact .inl (.inr h)
      · exact .inl (.inl h)
      · exact .inr h
theorem insAll_length (D E : List Dep) : (insAll D E).length ≤ D.length + E.length ∧ D.length ≤ (insAll D E).length := by
  induction E generalizing D with
  | nil => simp [insAll]
  | cons e E ih =>
    have h1 := ih (D := insD D e)
    have h2 := ins_length D e
    rw [insAll] at h1
    rw [insAll, List.foldl_cons, List.length_cons]
    omega
theorem insAll_take {D E : List Dep} {k : Nat} (h : k < E.length) : insAll D (E.take (k + 1)) = insD (insAll D (E.take k)) (atD E k) := by
  rw [atD_get h, List.take_succ_eq_append_getElem h, insAll, List.foldl_append]
  rfl
theorem insAll_append (D E F : List Dep) : insAll D (E ++ F) = insAll (insAll D E) F := List.foldl_append
theorem asc_nil : ascD [] := List.Pairwise.nil

/-- Valid lists, merging, successors, shifting. -/
def inD (d : Dep) : Bool := decide (0 ≤ d.1 ∧ d.1 ≤ 127 ∧ 0 ≤ d.2 ∧ d.2 ≤ 127)
theorem inD_iff {d : Dep} : inD d = true ↔ 0 ≤ d.1 ∧ d.1 ≤ 127 ∧ 0 ≤ d.2 ∧ d.2 ≤ 127 := by unfold inD; exact decide_eq_true_iff
theorem inD_no {d : Dep} : inD d = false ↔ ¬ (0 ≤ d.1 ∧ d.1 ≤ 127 ∧ 0 ≤ d.2 ∧ d.2 ≤ 127) := by unfold inD; exact decide_eq_false_iff_not
/-- The element k is in the range and above the one ahead of it. -/
def stepD (D : List Dep) (k : Nat) : Bool := inD (atD D k) && (decide (k = 0) || ltD (atD D (k - 1)) (atD D k))
def okD (D : List Dep) : Bool := (List.range D.length).all (stepD D)
theorem okD_iff {D : List Dep} : okD D = true ↔ ∀ k, k < D.length → stepD D k = true := by
  unfold okD
  rw [List.all_eq_true]
  exact ⟨fun h k hk => h k (List.mem_range.2 hk), fun h k hk => h k (List.mem_range.1 hk)⟩
theorem okD_not {D : List Dep} {k : Nat} (hk : k < D.length) (h : stepD D k = false) : okD D = false := by
  cases ho : okD D with
  | false => rfl
  | true => rw [okD_iff.1 ho k hk] at h; cases h
theorem okD_asc {D : List Dep} (h : okD D = true) : ascD D := asc_of fun i hi => by
  have := okD_iff.1 h (i + 1) hi
  simp [stepD] at this
  exact this.2
theorem okD_in {D : List Dep} (h : okD D = true) {d : Dep} (hd : d ∈ D) : inD d = true := by
  obtain ⟨k, hk, rfl⟩ := atD_ex hd
  have := okD_iff.1 h k hk
  simp [stepD] at this
  exact this.1
theorem okD_of {D : List Dep} (h : ascD D) (k : ∀ d ∈ D, inD d = true) : okD D = true := okD_iff.2 fun i hi => by
  rw [stepD, k _ (atD_mem hi), Bool.true_and]
  cases i with
  | zero => rfl
  | succ i => rw [show i + 1 - 1 = i from rfl, asc_at h (Nat.lt_succ_self i) hi]; simp
def mergeD (A B : List Dep) : List Dep := if okD A && okD B then insAll A B else []
theorem merge_yes {A B : List Dep} (ha : okD A = true) (hb : okD B = true) : mergeD A B = insAll A B := by simp [mergeD, ha, hb]
theorem merge_no1 {A B : List Dep} (ha : okD A = false) : mergeD A B = [] := by simp [mergeD, ha]
theorem merge_no2 {A B : List Dep} (hb : okD B = false) : mergeD A B = [] := by simp [mergeD, hb]
theorem merge_length (A B : List Dep) : (mergeD A B).length ≤ A.length + B.length := by
  unfold mergeD
  split
  · exact (insAll_length A B).1
  · simp
def succD (D : List Dep) (c : Int) : List Int := (D.filter fun d => decide (d.1 = c)).map (·.2)
theorem succ_length (D : List Dep) (c : Int) : (succD D c).length ≤ D.length := by
  unfold succD
  rw [List.length_map]
  exact List.length_filter_le _ _
theorem succ_yes {D : List Dep} {c : Int} {k : Nat} (hk : k < D.length) (h : (atD D k).1 = c) : succD (D.take (k + 1)) c = succD (D.take k) c ++ [(atD D k).2] := by
  rw [atD_get hk] at h ⊢
  rw [List.take_succ_eq_append_getElem hk, succD, succD, List.filter_append, List.map_append]
  simp [h]
theorem succ_no {D : List Dep} {c : Int} {k : Nat} (hk : k < D.length) (h : ¬ (atD D k).1 = c) : succD (D.take (k + 1)) c = succD (D.take k) c := by
  rw [atD_get hk] at h
  rw [List.take_succ_eq_append_getElem hk, succD, succD, List.filter_append, List.map_append]
  simp [h]
theorem succ_all (D : List Dep) (c : Int) : succD (D.take D.length) c = succD D c := by rw [List.take_length]
theorem mem_succ {D : List Dep} {d : Dep} (h : d ∈ D) : d.2 ∈ succD D d.1 := by
  unfold succD
  exact List.mem_map.2 ⟨d, List.mem_filter.2 ⟨h, by simp⟩, rfl⟩
def moveD (D : List Dep) (by_ : Int) : List Dep := D.map fun d => (d.1 + by_, d.2 + by_)
theorem move_length (D : List Dep) (z : Int) : (moveD D z).length = D.length := List.length_map ..
theorem move_at {D : List Dep} (z : Int) {k : Nat} (h : k < D.length) : atD (moveD D z) k = ((atD D k).1 + z, (atD D k).2 + z) := by
  rw [atD_get (by rw [move_length]; exact h), atD_get h]
  simp [moveD]
theorem move_next {D : List Dep} (z : Int) {k : Nat} (h : k < D.length) : moveD (D.take (k + 1)) z = moveD (D.take k) z ++ [((atD D k).1 + z, (atD D k).2 + z)] := by
  rw [atD_get h, List.take_succ_eq_append_getElem h, moveD, moveD, List.map_append]
  rfl
def inS (z : Int) : Bool := decide (-1000 ≤ z ∧ z ≤ 1000)
def shiftD (D : List Dep) (z : Int) : List Dep := if okD D && inS z && okD (moveD D z) then moveD D z else []
theorem shift_yes {D : List Dep} {z : Int} (h : okD D = true) (hz : inS z = true) (hm : okD (moveD D z) = true) : shiftD D z = moveD D z := by simp [shiftD, h, hz, hm]
theorem shift_no1 {D : List Dep} {z : Int} (h : okD D = false) : shiftD D z = [] := by simp [shiftD, h]
theorem shift_no2 {D : List Dep} {z : Int} (h : inS z = false) : shiftD D z = [] := by simp [shiftD, h]
theorem shift_no3 {D : List Dep} {z : Int} (h : okD (moveD D z) = false) : shiftD D z = [] := by simp [shiftD, h]
theorem shift_length (D : List Dep) (z : Int) : (shiftD D z).length ≤ D.length := by
  unfold shiftD
  split
  · rw [move_length]; exact Nat.le_refl _
  · simp
end Go.Proofs.YtidilfakganooaaDoor
end
