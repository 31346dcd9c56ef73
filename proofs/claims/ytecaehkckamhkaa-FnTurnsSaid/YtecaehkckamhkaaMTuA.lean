/- What is proved here: small facts on worlds, owned rows and byte rows that the other texts of this seat use; nothing of the program; the drawing functions of the given model (a cursor over the bytes of a draw) return numbers in their ranges, for every cursor whose bytes can be read; only the cursor's own block and new blocks are written; a number picked from a list is one of the list; only the cursor's own block and new blocks are written; the numbers that the grid functions return, as mathematics; nothing of the program; a drawn grid is a valid one; only new blocks are written; a drawn grid is valid; only new blocks are written; a drawn rule is one of the four; only new blocks are written; the laws' size test answers whether a draw has more than a million bytes; nothing is written; the numbers that the mesh functions return, as mathematics; nothing of the program; the numbers that the functions on routing tables return, as mathematics; nothing of the program; the standard tables, as mathematics: all of them are valid and minimal, and their longest walk is the diameter; nothing of the program; the directions of the four rules, taken one after the other, are the ports of the standard tables; nothing of the program; small facts on rows of the call's own, on texts as cells and on the bytes of a text; nothing of the program; what the program's grid functions return, for all arguments; only new blocks are written; the column and the row that the program finds for a node that exists; only new blocks are written; the program's functions of directions and its four rules, for nodes that exist; only new blocks are written; the table of the rules that the program builds, and what it finds for a rule's number; only new blocks are written; small facts on rows of integers of the call's own; nothing of the program; names for what StandardPort and StandardTable return; nothing of the program; a store into a row of the rules' table; whether a grid has a node; small facts on slices of integers that can be read, and on the laws' helpers for them (copy, compare, mark, look for the marks); only the marked row and new blocks are written; small facts on new lists of numbers; nothing of the program; what the model's GridOk, NodeCount and its test of a node return, for all arguments; only new blocks are written; two boxed arguments stay known behind a call, and the number of pairs of nodes is small; nothing of the program; small facts on a square of 16 rows of 16 numbers that is written pair by pair, on its greatest number, and on walks of a table; nothing of the program; what the program's StandardTable returns, for all arguments; only new blocks are written; the lists that the functions on routes return, as mathematics; nothing of the program; a neighbor has the node as its neighbor at the opposite port, at the distance 1; as mathematics, nothing of the program; a route turned back leads back along the same nodes, and turned back twice it is the route again; a table's walk is a route that visits no node twice; as mathematics, nothing of the program; sets of turns as mathematics, and which turns the ways of a table take; nothing of the program; the program's sets of turns: a map whose keys are numbers below 16; what is put in by add and addAll; the map's own block alone is written; DERIVED: THE SHELF's CONTRACTS AT THIS DUMP, IN PLAIN WORDS (tools/lay-plain.mjs out of 'YtecaehkckamhkaaKeysL.lean', which tools/lay-shelf.mjs wrote): THE SAME DECLARATIONS UNDER THE SAME NAMES: 'import', 'namespace', 'open', 'def', 'theorem' AND NOTHING ELSE: no command of the shelf's: FOR A HAND-IN. Each laying: the table of numbers ('.._ren') and one theorem, a field a fact of the dump's own or the kernel's comparison; each contract: ONE APPLICATION; what the program's ascending returns: a new slice with the numbers of the set, ascending; only new blocks are written; What is stated here: a mesh as the cells of a block, and a mesh whose first broken channels are good; nothing of the program; how a walk loads and stores a whole array of 256 numbers that is known as a block; nothing of the program but its types; what the program's NextNode and its end of a channel return, for all arguments (the channel: of 64 bits); only new blocks are written; the broken channels of a valid mesh are numbers of 64 bits; nothing of the program; what the program's MeshOk returns for numbers of 64 bits; only new blocks are written. -/
import Derived.Test.YtecaehkckamhkaaRows
import Derived.WalkKit
import Derived.ProofKit
import Derived.OpenShut
import Derived.Below
import Derived.BigQuiet
import Derived.Deep.QuietTactic
import Derived.Deep.Draws
import Derived.Laws.AppendOwn
import Derived.Lib.Hide
import Derived.IntWalk
import Derived.StillTailTactics
import Derived.OwnWalk
import Derived.Laws.IdiomStrings
import Derived.Lib.BufferRead
import Derived.Deep.AppendLies
import Derived.Outline
import Derived.Deep.RegionHeld3
import Derived.Deep.DrawnRows
import Derived.Laws.OwnMore
import Derived.Laws.Rows
import Derived.Laws.Tables
import Derived.Laws.ResultCell
import Derived.Maps.OwnSet
import Derived.Lib.SlKeysI
import Derived.Maps.AppendAt
import Derived.Shelf.SlIterI.Nil
import Derived.Shelf.SlIterI.Sorted
import Derived.Shelf.SortM.Plain
import Derived.Shelf.SortM.SortNone
import Derived.Ground.GgzProg
import Derived.Ground.SlgmProg
import Derived.Test.YtecaehkckamhkaaProg
import Derived.Shelf.AbstractIn
section
namespace Go.Proofs.Ytecaehkckamhkaa
open Go.ChangeShapes Go.WideShapes Go.ChangeAt Go.RowKit
set_option linter.unusedVariables false

theorem ret_int64 {a b : Int} (h : a = b) : Ending.returned (.int .i64 a) = .returned (.int .i64 b) := by rw [h]
theorem ret_bool {a b : Bool} (h : a = b) : Ending.returned (.bool a) = .returned (.bool b) := by rw [h]

/-- No cell is held: for a drawn region that loads nothing. -/
def Tru (w : World) : Prop := w = w
theorem tru (w : World) : Tru w := rfl
/-- A contract that states the world on the left, turned for a still region. -/
theorem still_of {P : Program} {f : FuncId} {args : Array Value} {w : World} {v : Value} (h : Calls P f args w fun e w' => e = .returned v ∧ w = w') : Calls P f args w fun e w' => e = .returned v ∧ w' = w :=
  h.mono fun _ _ ⟨he, hw⟩ => ⟨he, hw.symm⟩

theorem gb_refl (w : World) (row : Option Nat) : w.grownBy w row := ⟨rfl, rfl, rfl, Nat.le_refl _, fun _ _ _ => rfl⟩
theorem gb_trans {a b c : World} {row : Option Nat} (h : a.grownBy b row) (k : b.grownBy c row) : a.grownBy c row :=
  ⟨k.os.trans h.os, k.tape.trans h.tape, k.output.trans h.output, Nat.le_trans h.size k.size, fun i hi hne => (k.block i (Nat.lt_of_lt_of_le hi h.size) hne).trans (h.block i hi hne)⟩
theorem gb_drewN {a w : World} {row : Option Nat} (h : a.grownBy w row) (n : Nat) : a.grownBy (w.drewN n) row := ⟨h.os, h.tape, h.output, h.size, h.block⟩
theorem gb_drew {a w : World} {row : Option Nat} (h : a.grownBy w row) : a.grownBy w.drew row := ⟨h.os, h.tape, h.output, h.size, h.block⟩
theorem gb_alloc {a w : World} {row : Option Nat} (h : a.grownBy w row) (o : Obj) : a.grownBy (w.alloc o) row :=
  ⟨h.os, h.tape, h.output, Nat.le_trans h.size (by simp), fun i hi hne => (Below.heap_alloc w o i (Nat.lt_of_lt_of_le hi h.size)).trans (h.block i hi hne)⟩
theorem gb_setCell {a w : World} {row : Option Nat} (h : a.grownBy w row) {p : Addr} (hp : some p.block = row ∨ a.heap.size ≤ p.block) (u : Value) : a.grownBy (w.setCell p u) row :=
  ⟨h.os, h.tape, h.output, by simpa [World.setCell] using h.size, fun i hi hne => (Below.heap_setCell w p u i (by
    rintro rfl
    rcases hp with hp | hp
    · exact hne hp
    · omega)).trans (h.block i hi hne)⟩
theorem gb_of_below {a w : World} (h : Below a.heap.size a w) (row : Option Nat) : a.grownBy w row := ⟨h.os, h.tape, h.output, h.size, fun i hi _ => h.block i hi⟩
theorem gb_below {B : Nat} {w w' : World} {g : Nat} (h : w.grownBy w' (some g)) (hB : B ≤ w.heap.size) (hg : B ≤ g) : Below B w w' :=
  ⟨h.os, h.tape, h.output, h.size, fun i hi => h.block i (by omega) (fun e => by cases e; omega)⟩
theorem gb_below_none {B : Nat} {w w' : World} (h : w.grownBy w' none) (hB : B ≤ w.heap.size) : Below B w w' :=
  ⟨h.os, h.tape, h.output, h.size, fun i hi => h.block i (by omega) (fun e => by cases e)⟩
theorem below_drewN {B : Nat} {a w : World} (h : Below B a w) (n : Nat) : Below B a (w.drewN n) := ⟨h.os, h.tape, h.output, h.size, h.block⟩

/-- A block of cells that the call may write, known whole. -/
def Blk (w : World) (g : Nat) (t : TypeId) (cs : Array Value) : Prop := w.heap[g]? = some (.cells cs t (0, 0))
section
variable {w w' : World} {g : Nat} {t : TypeId} {cs : Array Value}
theorem Blk.lt (h : Blk w g t cs) : g < w.heap.size := by
  rcases Nat.lt_or_ge g w.heap.size with hlt | hge
  · exact hlt
  · unfold Blk at h; rw [Array.getElem?_eq_none hge] at h; cases h
theorem Blk.cell (h : Blk w g t cs) (i : Nat) : w.cell? ⟨g, i, none⟩ = cs[i]? := cell_of_row w g i cs t (0, 0) h
theorem Blk.frozen (h : Blk w g t cs) (i : Nat) : w.frozen? ⟨g, i, none⟩ = false := by
  unfold Blk at h
  simp [World.frozen?, h]
theorem Blk.new (w : World) (t : TypeId) (cs : Array Value) : Blk (w.alloc (.cells cs t)) w.heap.size t cs := heap_alloc_new w _
theorem Blk.drewN (h : Blk w g t cs) (n : Nat) : Blk (w.drewN n) g t cs := h
theorem Blk.alloc (h : Blk w g t cs) (o : Obj) : Blk (w.alloc o) g t cs := (Below.heap_alloc w o g h.lt).trans h
theorem Blk.set_ (h : Blk w g t cs) (i : Nat) (u : Value) : Blk (w.setCell ⟨g, i, none⟩ u) g t (cs.setIfInBounds i u) := by
  unfold Blk at h ⊢
  simp [World.setCell, Array.getElem?_modify, h]
theorem Blk.far (h : Blk w g t cs) {p : Addr} (hp : g ≠ p.block) (u : Value) : Blk (w.setCell p u) g t cs := (Below.heap_setCell w p u g hp).trans h
theorem Blk.grown {row : Option Nat} (h : Blk w g t cs) (hb : w.grownBy w' row) (hg : some g ≠ row) : Blk w' g t cs := (hb.block g h.lt hg).trans h
theorem Blk.below {B : Nat} (h : Blk w g t cs) (hb : Below B w w') (hg : g < B) : Blk w' g t cs := (hb.block g hg).trans h
theorem own_ne {base : Nat} {e : TypeId} {size n : Nat} {v : Value} {xs : List Value} (h : w.ownsRow base e size v n xs) (hg : Blk w g t cs) (hne : e ≠ t) : v.ownBlock ≠ some g := by
  rcases h.2 with ⟨rfl, _⟩ | ⟨g', cap, cur, rfl, _, hh, _⟩
  · simp [Value.ownBlock]
  · intro he
    have : g' = g := by simpa [Value.ownBlock] using he
    subst this
    unfold Blk at hg
    rw [hg] at hh
    injection hh with hh
    injection hh with _ ht
    exact hne ht.symm
end

/-- A slice of bytes that came in: its first n cells are bytes, in a block below B. -/
def ByteRow (w : World) (B : Nat) (A : Option Addr) (n : Nat) : Prop :=
  0 < n → ∃ b off, A = some ⟨b, off, none⟩ ∧ b < B ∧ ∀ k, k < n → ∃ v : Int, 0 ≤ v ∧ v ≤ 255 ∧ w.cell? ⟨b, off + k, none⟩ = some (.int .u8 v)
theorem ByteRow.keep {w w' : World} {B n : Nat} {A : Option Addr} (h : ByteRow w B A n) (hk : ∀ p : Addr, p.block < B → w'.cell? p = w.cell? p) : ByteRow w' B A n := fun hn => by
  obtain ⟨b, off, hA, hb, hc⟩ := h hn
  refine ⟨b, off, hA, hb, fun k hkn => ?_⟩
  obtain ⟨v, h0, h1, hv⟩ := hc k hkn
  exact ⟨v, h0, h1, (hk _ hb).trans hv⟩
theorem ByteRow.more {w : World} {B B' n : Nat} {A : Option Addr} (h : ByteRow w B A n) (hB : B ≤ B') : ByteRow w B' A n := fun hn => by
  obtain ⟨b, off, hA, hb, hc⟩ := h hn
  exact ⟨b, off, hA, by omega, hc⟩

theorem byteRow_of {w : World} {n : Nat} (x : Addr) (zs : List Int) (hl : n ≤ zs.length) (hcell : ∀ i, i < zs.length → w.cell? (x.add i) = some (.int .u8 (zs.getD i 0))) (hwz : ∀ z ∈ zs, (Lit.int .u8 z).wf = true) :
    ByteRow w w.heap.size (some x) n := fun hn => by
  obtain ⟨b, off, spot⟩ := x
  have hc := hcell 0 (by omega)
  have hspot : spot = none := by simpa [Addr.add] using World.cell?_spot hc
  subst hspot
  have hlt : b < w.heap.size := by simpa [Addr.add] using World.block_lt_of_cell? _ _ hc
  refine ⟨b, off, rfl, hlt, fun k hk => ?_⟩
  have hk' : k < zs.length := by omega
  have hb := bounds_u8 (hwz (zs.getD k 0) (by simp [List.getD, List.getElem?_eq_getElem hk']))
  exact ⟨zs.getD k 0, hb.1, hb.2, by simpa [Addr.add_lit] using hcell k hk'⟩

theorem band_u (x : Int) (m : Nat) (hm : m ≤ 2147483647) : 0 ≤ bits .and .i64 x (m : Int) ∧ bits .and .i64 x (m : Int) ≤ m := by
  have h : ((BitVec.ofInt IntKind.i64.bits x) &&& (BitVec.ofInt IntKind.i64.bits (m : Int))).toNat ≤ m := by
    rw [BitVec.toNat_and]
    refine Nat.le_trans Nat.and_le_right ?_
    simp [IntKind.bits]
    omega
  have e : bits .and .i64 x (m : Int) = (((BitVec.ofInt IntKind.i64.bits x) &&& (BitVec.ofInt IntKind.i64.bits (m : Int))).toNat : Int) := by
    show IntKind.i64.wrap (((BitVec.ofInt IntKind.i64.bits x) &&& (BitVec.ofInt IntKind.i64.bits (m : Int))).toNat : Int) = _
    exact IntWalk.i64_in _ (by omega)
  rw [e]
  omega

/-- Bytes as the cells of a row. -/
def bytesV (l : List UInt8) : List Value := l.map fun c => Value.int .u8 (c.toNat : Int)
theorem bytesV_append (a b : List UInt8) : bytesV (a ++ b) = bytesV a ++ bytesV b := by simp [bytesV]
theorem bytesV_length (a : List UInt8) : (bytesV a).length = a.length := by simp [bytesV]

theorem info_u8 : (Try.prog.info? 5).map (fun i => (i.zero, i.size, i.bytes)) = some (some (.int .u8 0), 1, 1) := by kernel_rfl

/-- The text of an owned row of bytes. -/
theorem convert_owned {w : World} {base : Nat} {v : Value} {l : List UInt8} (h : w.ownsRow base 5 1 v l.length (bytesV l)) :
    (convert 42 9 v).run Try.prog w = .ok (.string ⟨l.toArray⟩) w := by
  rcases h.2 with ⟨rfl, h0⟩ | ⟨g, cap, cur, rfl, _, hh, hn, _, _, hcur⟩
  · have hl : l = [] := List.eq_nil_of_length_eq_zero h0
    subst hl
    exact Lib.run_convert_nil_bytes w _ _ _ 0 Try.underlying42 Try.underlying5 Try.underlying9
  · refine run_convert_bytes_back w _ _ _ ⟨g, 0, none⟩ cap l Try.underlying42 Try.underlying5 Try.underlying9 ?_
    intro j hj
    refine h.cells (g := g) rfl j _ ?_
    simp [bytesV, hj]

theorem take_snoc (s : ByteArray) (k : Nat) (h : k < s.size) : s.data.toList.take (k + 1) = s.data.toList.take k ++ [s[k]] := by
  rw [List.take_succ_eq_append_getElem (by simpa using h)]; rfl

end Go.Proofs.Ytecaehkckamhkaa
end

section
namespace Go.Proofs.Ytecaehkckamhkaa
open Go.ChangeShapes Go.WideShapes Go.ChangeAt Go.RowKit
set_option linter.unusedVariables false

/-- Block g is a cursor over a row of bytes that lies in an older block. -/
def Cur (w : World) (g : Nat) : Prop :=
  ∃ (A : Option Addr) (n cap i : Nat) (h : Int), Blk w g 121 #[.slice A n cap, .int .i64 i, .int .i64 h] ∧ i ≤ n ∧ n ≤ 1048576 ∧ ByteRow w g A n
theorem Cur.lt {w : World} {g : Nat} (h : Cur w g) : g < w.heap.size := by obtain ⟨A, n, cap, i, h, hb, _⟩ := h; exact hb.lt
theorem Cur.grown {w w' : World} {g : Nat} {row : Option Nat} (h : Cur w g) (hg : w.grownBy w' row) (hr : ∀ k, row = some k → g < k) : Cur w' g := by
  have hlt := h.lt
  obtain ⟨A, n, cap, i, h, hb, hi, hn, hr'⟩ := h
  exact ⟨A, n, cap, i, h, hb.grown hg (fun e => by have := hr g e.symm; omega), hi, hn, hr'.keep fun p hp => World.cell?_of_block (hg.block p.block (by omega) (fun e => by have := hr _ e.symm; omega))⟩
theorem Cur.other {w w' : World} {g : Nat} {base : Nat} {e : TypeId} {size n : Nat} {v : Value} {xs : List Value} (h : Cur w g) (hg : w.grownBy w' v.ownBlock) (ho : w.ownsRow base e size v n xs) (hbase : g < base) : Cur w' g :=
  h.grown hg (fun k hk => by have := (ho.lt k hk).1; omega)

/-- An integer between lo and hi is returned; only the cursor and new blocks are written. -/
def DrawnI (lo hi : Int) (g : Nat) (w : World) (e : Ending) (w' : World) : Prop := ∃ n : Int, e = .returned (.int .i64 n) ∧ lo ≤ n ∧ n ≤ hi ∧ Cur w' g ∧ w.grownBy w' (some g)
def DrawnB (g : Nat) (w : World) (e : Ending) (w' : World) : Prop := ∃ b : Bool, e = .returned (.bool b) ∧ Cur w' g ∧ w.grownBy w' (some g)

theorem Cur.of {w w' : World} {g : Nat} {A : Option Addr} {n cap i' : Nat} {cs : Array Value} {h' : Int} (hb : Blk w g 121 cs) (hr : ByteRow w g A n) (hg : w.grownBy w' (some g))
    (hb' : Blk w' g 121 #[.slice A n cap, .int .i64 i', .int .i64 h']) (hi : i' ≤ n) (hn : n ≤ 1048576) : Cur w' g := by
  have hlt := hb.lt
  exact ⟨A, n, cap, i', h', hb', hi, hn, hr.keep fun p hp => World.cell?_of_block (hg.block p.block (by omega) (fun e => by cases e; omega))⟩

theorem l01Byte (g : Nat) (w : World) (hcur : Cur w g) :
    Calls Try.prog 103 #[.pointer (some ⟨g, 0, none⟩)] w (DrawnI 0 255 g w) := by
  obtain ⟨A, n, cap, i, h, hb, hi, hn, hr⟩ := hcur
  have c0 : w.cell? ⟨g, 0, none⟩ = some (.slice A n cap) := hb.cell 0
  have c1 : w.cell? ⟨g, 1, none⟩ = some (.int .i64 i) := hb.cell 1
  have c2 : w.cell? ⟨g, 2, none⟩ = some (.int .i64 h) := hb.cell 2
  have f1 := hb.frozen 1
  have f2 := hb.frozen 2
  have Hb : Hid (Blk w g 121 #[.slice A n cap, .int .i64 i, .int .i64 h]) := hb
  have Hr : Hid (ByteRow w g A n) := hr
  by_cases hlt : i < n
  · obtain ⟨b, off, rfl, hbg, hcell⟩ := hr (by omega)
    obtain ⟨v, hv0, hv1, cv⟩ := hcell i hlt
    have hne : ¬ g = b := by omega
    have hd : decide ((i : Int) < (n : Int)) = true := by simp; omega
    clear hb hr hcell
    go_enter Try.func103, Try.ntmps103
    go_wp2
    go_quiet (fail)
    go_wp2
    go_quiet (fail)
    go_wp2
    go_quiet (fail)
    go_wp2
    go_ret
    refine ⟨_, rfl, (band_u _ 255 (by omega)).1, (band_u _ 255 (by omega)).2, ?_, ?_⟩
    · refine Cur.of Hb.out Hr.out ?_ (i' := i + 1) (((Hb.out.set_ 2 _).drewN _).set_ 1 _) (by omega) hn
      repeat (first | exact gb_refl _ _ | refine gb_drewN ?_ _ | refine gb_setCell ?_ (.inl rfl) _)
    · repeat (first | exact gb_refl _ _ | refine gb_drewN ?_ _ | refine gb_setCell ?_ (.inl rfl) _)
  · have hd : decide ((i : Int) < (n : Int)) = false := by simp; omega
    clear hb hr
    go_enter Try.func103, Try.ntmps103
    go_wp2
    go_quiet (fail)
    go_wp2
    go_quiet (fail)
    go_wp2
    go_ret
    refine ⟨_, rfl, (band_u _ 255 (by omega)).1, (band_u _ 255 (by omega)).2, ?_, ?_⟩
    · refine Cur.of Hb.out Hr.out ?_ (i' := i) (((Hb.out.set_ 2 _).drewN _).drewN _) hi hn
      repeat (first | exact gb_refl _ _ | refine gb_drewN ?_ _ | refine gb_setCell ?_ (.inl rfl) _)
    · repeat (first | exact gb_refl _ _ | refine gb_drewN ?_ _ | refine gb_setCell ?_ (.inl rfl) _)

/-- A drawn number below n: 0 where n is not above 0. -/
def DrawnBelow (n : Int) (g : Nat) (w : World) (e : Ending) (w' : World) : Prop := ∃ r : Int, e = .returned (.int .i64 r) ∧ 0 ≤ r ∧ (0 < n → r < n) ∧ (n ≤ 0 → r = 0) ∧ Cur w' g ∧ w.grownBy w' (some g)

theorem l01Below (n : Int) (g : Nat) (w : World) (hcur : Cur w g) :
    Calls Try.prog 69 #[.pointer (some ⟨g, 0, none⟩), .int .i64 n] w (DrawnBelow n g w) := by
  by_cases h0 : n ≤ 0
  · go_enter Try.func69, Try.ntmps69
    go_wp2
    go_ret
    exact ⟨0, rfl, by omega, by omega, fun _ => rfl, hcur, gb_refl _ _⟩
  · by_cases h1 : n ≤ 256
    · go_enter Try.func69, Try.ntmps69
      go_wp2_with fail
      refine (l01Byte g _ hcur).mono ?_
      rintro e w1 ⟨r, rfl, hr0, hr1, hcur1, hg1⟩
      have hm0 : 0 ≤ r % n := Int.emod_nonneg _ (by omega)
      have hm1 : r % n < n := Int.emod_lt_of_pos _ (by omega)
      go_wp2_with fail
      go_ret
      exact ⟨r % n, rfl, hm0, fun _ => hm1, fun h => (by omega), hcur1, hg1⟩
    · go_enter Try.func69, Try.ntmps69
      go_wp2_with fail
      refine (l01Byte g _ hcur).mono ?_
      rintro e w1 ⟨r1, rfl, hr10, hr11, hcur1, hg1⟩
      go_wp2_with fail
      refine (l01Byte g _ hcur1).mono ?_
      rintro e w2 ⟨r2, rfl, hr20, hr21, hcur2, hg2⟩
      go_wp2_with fail
      refine (l01Byte g _ hcur2).mono ?_
      rintro e w3 ⟨r3, rfl, hr30, hr31, hcur3, hg3⟩
      go_wp2_with fail
      refine (l01Byte g _ hcur3).mono ?_
      rintro e w4 ⟨r4, rfl, hr40, hr41, hcur4, hg4⟩
      have hm0 : 0 ≤ (r1 * 16777216 + r2 * 65536 + r3 * 256 + r4) % n := Int.emod_nonneg _ (by omega)
      have hm1 : (r1 * 16777216 + r2 * 65536 + r3 * 256 + r4) % n < n := Int.emod_lt_of_pos _ (by omega)
      go_wp2_with fail
      go_ret
      exact ⟨_, rfl, hm0, fun _ => hm1, fun h => (by omega), hcur4, gb_trans hg1 (gb_trans hg2 (gb_trans hg3 hg4))⟩

/-- A new cursor over the bytes of a draw. -/
def NewCur (w : World) (e : Ending) (w' : World) : Prop := ∃ g : Nat, e = .returned (.pointer (some ⟨g, 0, none⟩)) ∧ w.heap.size ≤ g ∧ Cur w' g ∧ Below w.heap.size w w'

set_option maxRecDepth 100000 in
theorem l01New (A : Option Addr) (n cap : Nat) (w : World) (hr : ByteRow w w.heap.size A n) (hn : n ≤ 1048576) :
    Calls Try.prog 68 #[.slice A n cap] w (NewCur w) := by
  have Hr : Hid (ByteRow w w.heap.size A n) := hr
  go_enter Try.func68, Try.ntmps68
  go_wp2
  go_loop [3, 4] (fun h i => ∃ (k : Nat) (z : Int), k ≤ n ∧ i = .int .i64 k ∧ h = .int .i64 z) (fun _ i => n - (intOf i).toNat)
  case atStart => exact ⟨0, _, Nat.zero_le _, rfl, rfl⟩
  case round =>
    obtain ⟨k, z, hk, rfl, rfl⟩ := hrel
    by_cases hlt : k < n
    · obtain ⟨b, off, rfl, hbg, hcell⟩ := hr (by omega)
      obtain ⟨v, hv0, hv1, cv⟩ := hcell k hlt
      by_cases h4 : k < 4000
      · clear hcell hr
        go_wp2
        go_round
        case rel => exact ⟨k + 1, _, by omega, by go_num, rfl⟩
        case measure => simp [intOf]; omega
      · clear hcell hr
        go_wp2
        go_ret
        exact ⟨w.heap.size, rfl, Nat.le_refl _, ⟨_, n, cap, 0, z, Blk.new _ _ _, Nat.zero_le _, hn, Hr.out.keep fun p hp => World.cell?_of_block (Below.heap_alloc _ _ _ hp)⟩, (Below.refl _ _).alloc (Nat.le_refl _) _⟩
    · clear hr
      go_wp2
      go_ret
      exact ⟨w.heap.size, rfl, Nat.le_refl _, ⟨_, n, cap, 0, z, Blk.new _ _ _, Nat.zero_le _, hn, Hr.out.keep fun p hp => World.cell?_of_block (Below.heap_alloc _ _ _ hp)⟩, (Below.refl _ _).alloc (Nat.le_refl _) _⟩
end Go.Proofs.Ytecaehkckamhkaa
end

section
namespace Go.Proofs.Ytecaehkckamhkaa
open Go.ChangeShapes Go.WideShapes Go.ChangeAt Go.RowKit
set_option linter.unusedVariables false

/-- A 64-bit integer is returned for which P holds. -/
def DrawnP (P : Int → Prop) (g : Nat) (w : World) (e : Ending) (w' : World) : Prop := ∃ n : Int, e = .returned (.int .i64 n) ∧ P n ∧ Cur w' g ∧ w.grownBy w' (some g)
def IsI64 (n : Int) : Prop := (Lit.int .i64 n).wf = true

theorem l01PickInt (P : Int → Prop) (b m cap : Nat) (g : Nat) (w : World) (hcur : Cur w g) (hm : 0 < m) (hb : b ≠ g) (hbs : b < w.heap.size)
    (hL : ∀ k, k < m → ∃ x : Int, P x ∧ w.cell? ⟨b, k, none⟩ = some (.int .i64 x)) :
    Calls Try.prog 104 #[.pointer (some ⟨g, 0, none⟩), .slice (some ⟨b, 0, none⟩) m cap] w (DrawnP P g w) := by
  have HL := Lib.hid hL
  clear hL
  go_enter Try.func104, Try.ntmps104
  go_wp2_with fail
  refine (l01Below m g _ hcur).mono ?_
  rintro e w1 ⟨r, rfl, hr0, hr1, hr2, hcur1, hg1⟩
  obtain ⟨k, rfl⟩ : ∃ k : Nat, r = k := ⟨r.toNat, by omega⟩
  have hk : k < m := by omega
  obtain ⟨x, hx, hc⟩ := HL.out k hk
  have hc1 : w1.cell? ⟨b, k, none⟩ = some (.int .i64 x) := hg1.cell hc (fun e => hb (by cases e; rfl))
  clear hr2
  go_wp2_with fail
  go_ret
  exact ⟨x, rfl, hx, hcur1, hg1⟩

theorem pick_new (P : Int → Prop) (L : List Int) (T : TypeId) (cs : Array Value) (m cap : Nat) (g : Nat) (w : World) (hcur : Cur w g) (hcs : cs = (L.map fun x => Value.int .i64 x).toArray) (hm : m = L.length) (h0 : 0 < m) (hP : ∀ x ∈ L, P x) :
    Calls Try.prog 104 #[.pointer (some ⟨g, 0, none⟩), .slice (some ⟨w.heap.size, 0, none⟩) m cap] (w.alloc (.cells cs T)) (DrawnP P g w) := by
  have hlt := hcur.lt
  have hal : w.grownBy (w.alloc (.cells cs T)) none := gb_alloc (gb_refl _ _) _
  have hal2 : w.grownBy (w.alloc (.cells cs T)) (some g) := gb_alloc (gb_refl _ _) _
  refine (l01PickInt P w.heap.size m cap g _ (hcur.grown hal (fun k e => by cases e)) h0 (by omega) (by simp) ?_).mono ?_
  · intro k hk
    have hk' : k < L.length := by omega
    refine ⟨L[k], hP _ (List.getElem_mem hk'), ?_⟩
    rw [(Blk.new w T cs).cell k, hcs]
    simp [hk']
  · rintro e w' ⟨x, rfl, hx, hc, hg⟩
    exact ⟨x, rfl, hx, hc, gb_trans hal2 hg⟩

theorem pick_at (P : Int → Prop) (L : List Int) (T : TypeId) (cs : Array Value) (m cap b : Nat) (g : Nat) (w : World) (hb : b = w.heap.size) (hcur : Cur w g) (hcs : cs = (L.map fun x => Value.int .i64 x).toArray) (hm : m = L.length) (h0 : 0 < m) (hP : ∀ x ∈ L, P x) :
    Calls Try.prog 104 #[.pointer (some ⟨g, 0, none⟩), .slice (some ⟨b, 0, none⟩) m cap] (w.alloc (.cells cs T)) (DrawnP P g w) := by
  subst hb
  exact pick_new P L T cs m cap g w hcur hcs hm h0 hP

theorem i64_small {n : Int} (h0 : -1000 ≤ n) (h1 : n ≤ 1000000001) : IsI64 n := WalkArith.wf_i64 (by omega)
end Go.Proofs.Ytecaehkckamhkaa
end

section
namespace Go.Proofs.Ytecaehkckamhkaa
open Go.ChangeShapes Go.WideShapes Go.ChangeAt Go.RowKit
set_option linter.unusedVariables false

def okG (W H : Int) : Bool := decide (1 ≤ W ∧ W ≤ 4 ∧ 1 ≤ H ∧ H ≤ 4)
def countG (W H : Int) : Int := if okG W H then W * H else 0
def atG (W H x y : Int) : Int := if okG W H = true ∧ 0 ≤ x ∧ x < W ∧ 0 ≤ y ∧ y < H then y * W + x else -1
def hasG (W H n : Int) : Bool := decide (0 ≤ n ∧ n < countG W H)
def colG (W H n : Int) : Int := if hasG W H n then n % W else -1
def rowG (W H n : Int) : Int := if hasG W H n then n / W else -1
def absI (x : Int) : Int := if x < 0 then -x else x
def distG (W H a b : Int) : Int := if hasG W H a = true ∧ hasG W H b = true then absI (a % W - b % W) + absI (a / W - b / W) else -1
def diamG (W H : Int) : Int := if okG W H then W + H - 2 else -1

theorem okG_iff {W H : Int} : okG W H = true ↔ 1 ≤ W ∧ W ≤ 4 ∧ 1 ≤ H ∧ H ≤ 4 := by simp [okG]
theorem okG_cases {W H : Int} (h : okG W H = true) : (W = 1 ∨ W = 2 ∨ W = 3 ∨ W = 4) ∧ (H = 1 ∨ H = 2 ∨ H = 3 ∨ H = 4) := by
  rw [okG_iff] at h; omega
theorem countG_le (W H : Int) : 0 ≤ countG W H ∧ countG W H ≤ 16 := by
  unfold countG
  split
  · rename_i h
    rcases okG_cases h with ⟨h1, h2⟩
    rcases h1 with rfl | rfl | rfl | rfl <;> rcases h2 with rfl | rfl | rfl | rfl <;> decide
  · omega
theorem hasG_iff {W H n : Int} : hasG W H n = true ↔ 0 ≤ n ∧ n < countG W H := by simp [hasG]
theorem hasG_ok {W H n : Int} (h : hasG W H n = true) : okG W H = true ∧ 0 ≤ n ∧ n < W * H ∧ countG W H = W * H := by
  rw [hasG_iff] at h
  cases hok : okG W H with
  | true => have hc : countG W H = W * H := by simp [countG, hok]
            rw [hc] at h; exact ⟨rfl, h.1, h.2, hc⟩
  | false => have hc : countG W H = 0 := by simp [countG, hok]
             rw [hc] at h; omega

theorem hasG_le {W H n : Int} (h : hasG W H n = true) : 0 ≤ n ∧ n ≤ 15 := by
  rw [hasG_iff] at h; have := countG_le W H; omega
theorem row_wrap {W n : Int} (h0 : 0 ≤ n) (h1 : n ≤ 15) (hW : W = 1 ∨ W = 2 ∨ W = 3 ∨ W = 4) : wrap64 (n.tdiv W) = n / W := by
  rw [Int.tdiv_eq_ediv_of_nonneg h0]
  refine IntWalk.wrap64_in _ ?_
  rcases hW with rfl | rfl | rfl | rfl <;> omega
/-- Column and row of a node are in range, and give the node back. -/
theorem place_of {W H n : Int} (h : hasG W H n = true) : 0 ≤ n % W ∧ n % W < W ∧ 0 ≤ n / W ∧ n / W < H ∧ n / W * W + n % W = n := by
  obtain ⟨hok, h0, h1, _⟩ := hasG_ok h
  obtain ⟨hW, hH⟩ := okG_cases hok
  rcases hW with rfl | rfl | rfl | rfl <;> rcases hH with rfl | rfl | rfl | rfl <;> omega

theorem absI_nonneg (x : Int) : 0 ≤ absI x := by unfold absI; split <;> omega
theorem absI_neg (x : Int) : absI (-x) = absI x := by unfold absI; (repeat' split) <;> omega
theorem absI_swap (a b : Int) : absI (a - b) = absI (b - a) := by unfold absI; (repeat' split) <;> omega
theorem absI_tri (a b c : Int) : absI (a - c) ≤ absI (a - b) + absI (b - c) := by unfold absI; (repeat' split) <;> omega
theorem absI_lt {a b W : Int} (ha : 0 ≤ a) (ha' : a < W) (hb : 0 ≤ b) (hb' : b < W) : absI (a - b) ≤ W - 1 := by unfold absI; split <;> omega
theorem absI_zero {x : Int} : absI x = 0 ↔ x = 0 := by unfold absI; split <;> omega

theorem distG_ok {W H a b : Int} (ha : hasG W H a = true) (hb : hasG W H b = true) : distG W H a b = absI (a % W - b % W) + absI (a / W - b / W) := by simp [distG, ha, hb]
theorem distG_swap (W H a b : Int) : distG W H a b = distG W H b a := by
  unfold distG
  rw [absI_swap (a % W) (b % W), absI_swap (a / W) (b / W)]
  by_cases ha : hasG W H a = true <;> by_cases hb : hasG W H b = true <;> simp [ha, hb]
theorem distG_nonneg {W H a b : Int} (ha : hasG W H a = true) (hb : hasG W H b = true) : 0 ≤ distG W H a b := by
  rw [distG_ok ha hb]
  have := absI_nonneg (a % W - b % W); have := absI_nonneg (a / W - b / W); omega
theorem distG_zero {W H a b : Int} (ha : hasG W H a = true) (hb : hasG W H b = true) : distG W H a b = 0 ↔ a = b := by
  rw [distG_ok ha hb]
  have h1 := absI_nonneg (a % W - b % W); have h2 := absI_nonneg (a / W - b / W)
  constructor
  · intro h
    have e1 := absI_zero.1 (show absI (a % W - b % W) = 0 by omega)
    have e2 := absI_zero.1 (show absI (a / W - b / W) = 0 by omega)
    have pa := (place_of ha).2.2.2.2
    have pb := (place_of hb).2.2.2.2
    rw [← pa, ← pb, show a % W = b % W by omega, show a / W = b / W by omega]
  · rintro rfl
    simp [absI]
theorem distG_le {W H a b : Int} (ha : hasG W H a = true) (hb : hasG W H b = true) : distG W H a b ≤ diamG W H := by
  have hok := (hasG_ok ha).1
  rw [distG_ok ha hb]
  obtain ⟨a0, a1, a2, a3, _⟩ := place_of ha
  obtain ⟨b0, b1, b2, b3, _⟩ := place_of hb
  have h1 := absI_lt a0 a1 b0 b1
  have h2 := absI_lt a2 a3 b2 b3
  simp only [diamG, hok, if_true]
  omega
theorem distG_tri {W H a b c : Int} (ha : hasG W H a = true) (hb : hasG W H b = true) (hc : hasG W H c = true) : distG W H a c ≤ distG W H a b + distG W H b c := by
  rw [distG_ok ha hb, distG_ok ha hc, distG_ok hb hc]
  have h1 := absI_tri (a % W) (b % W) (c % W)
  have h2 := absI_tri (a / W) (b / W) (c / W)
  omega
theorem atG_place {W H n : Int} (h : hasG W H n = true) : atG W H (colG W H n) (rowG W H n) = n := by
  obtain ⟨h0, h1, h2, h3, h4⟩ := place_of h
  have hok := (hasG_ok h).1
  simp only [colG, rowG, h, if_true]
  unfold atG
  rw [if_pos ⟨hok, h0, h1, h2, h3⟩, h4]
/-- The greatest distance is that of opposite corners. -/
theorem diam_corner {W H : Int} (hok : okG W H = true) : distG W H 0 (W * H - 1) = diamG W H := by
  obtain ⟨hW, hH⟩ := okG_cases hok
  rcases hW with rfl | rfl | rfl | rfl <;> rcases hH with rfl | rfl | rfl | rfl <;> decide

end Go.Proofs.Ytecaehkckamhkaa
end

section
namespace Go.Proofs.Ytecaehkckamhkaa
open Go.ChangeShapes Go.WideShapes Go.ChangeAt Go.RowKit
set_option linter.unusedVariables false

/-- A grid with sides from 1 to 4 is returned; only the cursor and new blocks are written. -/
def DrawnGridC (g : Nat) (w : World) (e : Ending) (w' : World) : Prop := ∃ W H : Int, e = .returned (.agg #[.int .i64 W, .int .i64 H]) ∧ okG W H = true ∧ Cur w' g ∧ w.grownBy w' (some g)
def Side (n : Int) : Prop := 1 ≤ n ∧ n ≤ 4

theorem gb_set2 {a w : World} {row : Option Nat} {b : Nat} (h : a.grownBy w row) (hb : a.heap.size ≤ b) (x y : Value) : a.grownBy ((w.setCell ⟨b, 0, none⟩ x).setCell ⟨b, 1, none⟩ y) row :=
  gb_setCell (gb_setCell h (.inr hb) x) (.inr hb) y
theorem cur_set2 {w : World} {g b : Nat} (h : Cur w g) (hb : g < b) (x y : Value) : Cur ((w.setCell ⟨b, 0, none⟩ x).setCell ⟨b, 1, none⟩ y) g := by
  have hg : w.grownBy ((w.setCell ⟨b, 0, none⟩ x).setCell ⟨b, 1, none⟩ y) (some b) := gb_setCell (gb_setCell (gb_refl w (some b)) (.inl rfl) x) (.inl rfl) y
  exact h.grown hg (fun k e => by cases e; exact hb)

theorem l02Grid (g : Nat) (w : World) (hcur : Cur w g) :
    Calls Try.prog 74 #[.pointer (some ⟨g, 0, none⟩)] w (DrawnGridC g w) := by
  have hlt := hcur.lt
  have hc0 : Cur (w.alloc (.cells #[.int .i64 0, .int .i64 0] 32)) g := hcur.grown (gb_alloc (gb_refl _ none) _) (fun k e => by cases e)
  have HB := Lib.hid (Blk.new w 32 #[.int .i64 0, .int .i64 0])
  have HA := Lib.hid (show w.grownBy (w.alloc (.cells #[.int .i64 0, .int .i64 0] 32)) (some g) from gb_alloc (gb_refl _ _) _)
  clear hcur
  go_enter Try.func74, Try.ntmps74
  go_wp2_with fail
  refine (pick_at Side [1, 2, 2, 3, 3, 4] _ _ 6 6 _ g _ (by simp) hc0 rfl rfl (by omega) (by unfold Side; decide)).mono ?_
  rintro e w1 ⟨W, rfl, hW, hcur1, hg1⟩
  have hb1 := HB.out.grown hg1 (fun e => by cases e; omega)
  have HW := Lib.hid hW
  have HG1 := Lib.hid (gb_trans HA.out hg1)
  have HB1 := Lib.hid hb1
  clear hc0 hW hg1 hb1
  go_wp2_with fail
  refine (pick_at Side [1, 2, 2, 3, 3, 4] _ _ 6 6 _ g _ rfl hcur1 rfl rfl (by omega) (by unfold Side; decide)).mono ?_
  rintro e w2 ⟨H, rfl, hH, hcur2, hg2⟩
  have hb2 := HB1.out.grown hg2 (fun e => by cases e; omega)
  have HH := Lib.hid hH
  have HG2 := Lib.hid (gb_trans HG1.out hg2)
  have HB2 := Lib.hid hb2
  have HC2 := Lib.hid hcur2
  have c0 := hb2.cell 0
  have c1 := hb2.cell 1
  have f0 := hb2.frozen 0
  have f1 := hb2.frozen 1
  simp at c0 c1
  clear hcur1 hcur2 hg2 hb2
  go_wp2_with fail
  have d0 := (HB2.out.set_ 0 (.int .i64 W)).cell 1
  have d1 := ((HB2.out.set_ 0 (.int .i64 W)).set_ 1 (.int .i64 H)).cell 0
  have d2 := ((HB2.out.set_ 0 (.int .i64 W)).set_ 1 (.int .i64 H)).cell 1
  simp at d0 d1 d2
  refine bodyPost_ret (v := .agg #[.int .i64 W, .int .i64 H]) (by simp [results, Try.results74, go_sem, d1, d2]) rfl ⟨W, H, rfl, okG_iff.2 ⟨HW.out.1, HW.out.2, HH.out.1, HH.out.2⟩, ?_, ?_⟩
  · exact cur_set2 HC2.out hlt _ _
  · exact gb_set2 HG2.out (Nat.le_refl _) _ _
end Go.Proofs.Ytecaehkckamhkaa
end

section
namespace Go.Proofs.Ytecaehkckamhkaa
open Go.ChangeShapes Go.WideShapes Go.ChangeAt Go.RowKit
set_option linter.unusedVariables false

/-- A grid with sides from 1 to 4 is returned; only new blocks are written. -/
def DrawnGrid (w : World) (e : Ending) (w' : World) : Prop := ∃ W H : Int, e = .returned (.agg #[.int .i64 W, .int .i64 H]) ∧ okG W H = true ∧ Below w.heap.size w w'

theorem drawGrid (A : Option Addr) (n cap : Nat) (w : World) (hr : ByteRow w w.heap.size A n) (hn : n ≤ 1048576) :
    Calls Try.prog 30 #[.slice A n cap] w (DrawnGrid w) := by
  have hr0 : ByteRow (w.alloc (.cells #[.int .i64 0, .int .i64 0] 32)) (w.alloc (.cells #[.int .i64 0, .int .i64 0] 32)).heap.size A n := (hr.keep fun p hp => World.cell?_of_block (Below.heap_alloc _ _ _ hp)).more (by simp)
  have HB := Lib.hid (Blk.new w 32 #[.int .i64 0, .int .i64 0])
  have HA := Lib.hid (show Below w.heap.size w (w.alloc (.cells #[.int .i64 0, .int .i64 0] 32)) from (Below.refl _ _).alloc (Nat.le_refl _) _)
  have HR := Lib.hid hr0
  clear hr hr0
  go_enter Try.func30, Try.ntmps30
  go_wp2_with fail
  refine (l01New _ _ _ _ HR.out hn).mono ?_
  rintro e w1 ⟨g, rfl, hg, hc1, hbel⟩
  simp at hg
  have hs : (w.alloc (.cells #[.int .i64 0, .int .i64 0] 32)).heap.size = w.heap.size + 1 := by simp
  have HG := Lib.hid hg
  have hb1 := HB.out.below hbel (by simp)
  have HB1 := Lib.hid hb1
  have HA1 := Lib.hid (show Below w.heap.size w w1 from ⟨hbel.os.trans HA.out.os, hbel.tape.trans HA.out.tape, hbel.output.trans HA.out.output, Nat.le_trans HA.out.size hbel.size, fun i hi => (hbel.block i (by simp; omega)).trans (HA.out.block i hi)⟩)
  clear hbel hb1 hg
  go_wp2_with fail
  refine (l02Grid g _ hc1).mono ?_
  rintro e w2 ⟨W, H, rfl, hok, hc2, hg2⟩
  have hb2 := HB1.out.grown hg2 (fun e => by cases e; have := HG.out; omega)
  have HB2 := Lib.hid hb2
  have HA2 := Lib.hid (HA1.out.trans (gb_below hg2 HA1.out.size (by have := HG.out; omega)))
  have c0 := hb2.cell 0
  have c1 := hb2.cell 1
  have f0 := hb2.frozen 0
  have f1 := hb2.frozen 1
  simp at c0 c1
  clear hb2 hg2 hc1 hc2 hs
  go_wp2_with fail
  have d1 := ((HB2.out.set_ 0 (.int .i64 W)).set_ 1 (.int .i64 H)).cell 0
  have d2 := ((HB2.out.set_ 0 (.int .i64 W)).set_ 1 (.int .i64 H)).cell 1
  simp at d1 d2
  refine bodyPost_ret (v := .agg #[.int .i64 W, .int .i64 H]) (by simp [results, Try.results30, go_sem, d1, d2]) rfl ⟨W, H, rfl, hok, ?_⟩
  have hz : w.grownBy w2 none := gb_of_below HA2.out none
  exact gb_below_none (gb_set2 hz (Nat.le_refl _) _ _) (Nat.le_refl _)
end Go.Proofs.Ytecaehkckamhkaa
end

section
namespace Go.Proofs.Ytecaehkckamhkaa
open Go.ChangeShapes Go.WideShapes Go.ChangeAt Go.RowKit
set_option linter.unusedVariables false

theorem drawRule (A : Option Addr) (n cap : Nat) (w : World) (hr : ByteRow w w.heap.size A n) (hn : n ≤ 1048576) :
    Calls Try.prog 31 #[.slice A n cap] w fun e w' => ∃ r : Int, e = .returned (.int .i64 r) ∧ 1 ≤ r ∧ r ≤ 4 ∧ Below w.heap.size w w' := by
  have HR := Lib.hid hr
  clear hr
  go_enter Try.func31, Try.ntmps31
  go_wp2_with fail
  refine (l01New _ _ _ _ HR.out hn).mono ?_
  rintro e w1 ⟨g, rfl, hg, hc1, hbel⟩
  have HG := Lib.hid hg
  have HB := Lib.hid hbel
  clear hg hbel
  go_wp2_with fail
  refine (l01Below 4 g _ hc1).mono ?_
  rintro e w2 ⟨x, rfl, x0, x1, x2, hc2, hg2⟩
  have x3 := x1 (by omega)
  have q1 : IntKind.i64.wrap (1 + x) = 1 + x := IntWalk.i64_in _ (by omega)
  have HB2 := Lib.hid (HB.out.trans (gb_below hg2 HB.out.size (by have := HG.out; omega)))
  clear hg2 hc2 hc1 x1 x2
  go_wp2_with fail
  go_ret
  exact ⟨1 + x, rfl, by omega, by omega, HB2.out⟩
end Go.Proofs.Ytecaehkckamhkaa
end

section
namespace Go.Proofs.Ytecaehkckamhkaa
open Go.ChangeShapes Go.WideShapes Go.ChangeAt Go.RowKit
set_option linter.unusedVariables false

theorem lawsBig (A : Option Addr) (n cap : Nat) (w : World) :
    Calls Try.prog 25 #[.slice A n cap] w fun e w' => e = .returned (.bool (decide (1048576 < n))) ∧ w = w' := by
  go_enter Try.func25, Try.ntmps25
  go_wp2_with fail
  go_ret
  exact ⟨ret_bool (by simp; omega), rfl⟩
end Go.Proofs.Ytecaehkckamhkaa
end

section
namespace Go.Proofs.Ytecaehkckamhkaa
open Go.ChangeShapes Go.WideShapes Go.ChangeAt Go.RowKit
set_option linter.unusedVariables false

def nextG (W H n p : Int) : Int :=
  if hasG W H n then
    if p = 0 then atG W H (n % W) (n / W - 1)
    else if p = 1 then atG W H (n % W + 1) (n / W)
    else if p = 2 then atG W H (n % W) (n / W + 1)
    else if p = 3 then atG W H (n % W - 1) (n / W)
    else if p = 4 then n else -1
  else -1
def oppG (p : Int) : Int := if p = 0 then 2 else if p = 1 then 3 else if p = 2 then 0 else if p = 3 then 1 else if p = 4 then 4 else -1
def leadsG (W H c : Int) : Bool := decide (0 ≤ c ∧ c < 4 * countG W H ∧ 0 ≤ nextG W H (c / 4) (c % 4))
/-- Element i of the broken channels leads somewhere and is greater than the one before. -/
def goodAt (W H : Int) (L : List Int) (i : Nat) : Bool := leadsG W H (L.getD i 0) && (decide (i = 0) || decide (L.getD (i - 1) 0 < L.getD i 0))
def meshG (W H : Int) (L : List Int) : Bool := okG W H && (List.range L.length).all (goodAt W H L)
def inG (L : List Int) (c : Int) : Bool := L.contains c
def hasChG (W H : Int) (L : List Int) (c : Int) : Bool := leadsG W H c && !inG L c
def hasChannelG (W H : Int) (L : List Int) (c : Int) : Bool := meshG W H L && hasChG W H L c
/-- The channels below k. -/
def chansTo (W H : Int) (L : List Int) (k : Nat) : List Int := ((List.range k).map fun c : Nat => (c : Int)).filter (hasChG W H L)
def chansG (W H : Int) (L : List Int) : List Int := if meshG W H L then chansTo W H L (4 * countG W H).toNat else []
def portB (p : Int) : ByteArray := if p = 0 then ⟨#[110, 111, 114, 116, 104]⟩ else if p = 1 then ⟨#[101, 97, 115, 116]⟩ else if p = 2 then ⟨#[115, 111, 117, 116, 104]⟩ else if p = 3 then ⟨#[119, 101, 115, 116]⟩ else if p = 4 then ⟨#[108, 111, 99, 97, 108]⟩ else ⟨#[]⟩

theorem atG_le (W H x y : Int) : -1 ≤ atG W H x y ∧ atG W H x y ≤ 15 := by
  unfold atG
  split
  · rename_i h
    obtain ⟨hok, h0, h1, h2, h3⟩ := h
    obtain ⟨hW, hH⟩ := okG_cases hok
    rcases hW with rfl | rfl | rfl | rfl <;> rcases hH with rfl | rfl | rfl | rfl <;> omega
  · omega
theorem nextG_le (W H n p : Int) : -1 ≤ nextG W H n p ∧ nextG W H n p ≤ 15 := by
  unfold nextG
  split
  · rename_i h
    have := hasG_le h
    repeat' split
    all_goals first | exact atG_le _ _ _ _ | omega
  · omega
theorem nextG_has {W H n p : Int} (h : ¬ 0 ≤ p ∨ ¬ p ≤ 4) : nextG W H n p = -1 := by
  unfold nextG
  split
  · rw [if_neg (by omega), if_neg (by omega), if_neg (by omega), if_neg (by omega), if_neg (by omega)]
  · rfl

theorem chansTo_zero (W H : Int) (L : List Int) : chansTo W H L 0 = [] := rfl
theorem chansTo_yes {W H : Int} {L : List Int} {k : Nat} (h : hasChG W H L (k : Int) = true) : chansTo W H L (k + 1) = chansTo W H L k ++ [(k : Int)] := by
  unfold chansTo
  rw [List.range_succ, List.map_append, List.filter_append]
  simp [h]
theorem chansTo_no {W H : Int} {L : List Int} {k : Nat} (h : hasChG W H L (k : Int) = false) : chansTo W H L (k + 1) = chansTo W H L k := by
  unfold chansTo
  rw [List.range_succ, List.map_append, List.filter_append]
  simp [h]
theorem chansTo_le (W H : Int) (L : List Int) (k : Nat) : (chansTo W H L k).length ≤ k := by
  unfold chansTo
  refine Nat.le_trans (List.length_filter_le _ _) ?_
  simp

theorem chansG_le (W H : Int) (L : List Int) : (chansG W H L).length ≤ 64 := by
  unfold chansG
  split
  · have h1 := chansTo_le W H L (4 * countG W H).toNat
    have h2 := countG_le W H
    omega
  · simp
/-- The broken channels up to i are good; a bad one makes the mesh not valid. -/
def goodTo (W H : Int) (L : List Int) (i : Nat) : Prop := ∀ j, j < i → goodAt W H L j = true
theorem goodTo_zero (W H : Int) (L : List Int) : goodTo W H L 0 := fun j h => by omega
theorem goodTo_succ {W H : Int} {L : List Int} {i : Nat} (h : goodTo W H L i) (hi : goodAt W H L i = true) : goodTo W H L (i + 1) := fun j hj => by
  rcases Nat.lt_succ_iff_lt_or_eq.1 hj with h1 | rfl
  · exact h j h1
  · exact hi
theorem meshG_yes {W H : Int} {L : List Int} (hok : okG W H = true) (h : goodTo W H L L.length) : meshG W H L = true := by
  simp only [meshG, hok, Bool.true_and, List.all_eq_true]
  intro i hi
  exact h i (List.mem_range.1 hi)
theorem meshG_no {W H : Int} {L : List Int} {i : Nat} (hi : i < L.length) (h : goodAt W H L i = false) : meshG W H L = false := by
  rw [meshG]
  cases hok : okG W H with
  | false => rfl
  | true =>
    rw [Bool.true_and, List.all_eq_false]
    exact ⟨i, List.mem_range.2 hi, by rw [h]; decide⟩
theorem meshG_bad {W H : Int} {L : List Int} (h : okG W H = false) : meshG W H L = false := by simp [meshG, h]
theorem meshG_ok {W H : Int} {L : List Int} (h : meshG W H L = true) : okG W H = true ∧ goodTo W H L L.length := by
  simp only [meshG, Bool.and_eq_true, List.all_eq_true] at h
  exact ⟨h.1, fun j hj => h.2 j (List.mem_range.2 hj)⟩
theorem inG_no {L : List Int} {c : Int} (h : ∀ j, j < L.length → L.getD j 0 ≠ c) : inG L c = false := by
  unfold inG
  rw [List.contains_eq_any_beq, List.any_eq_false]
  intro x hx
  obtain ⟨j, hj, rfl⟩ := List.getElem_of_mem hx
  have := h j hj
  rw [List.getD_eq_getElem?_getD, List.getElem?_eq_getElem hj] at this
  simp only [Option.getD_some] at this
  simpa using fun e => this e.symm
theorem inG_yes {L : List Int} {c : Int} {j : Nat} (hj : j < L.length) (h : L.getD j 0 = c) : inG L c = true := by
  unfold inG
  rw [List.getD_eq_getElem?_getD, List.getElem?_eq_getElem hj] at h
  simp only [Option.getD_some] at h
  rw [List.contains_iff_mem, ← h]
  exact List.getElem_mem hj
theorem goodAt_lead {W H : Int} {L : List Int} {i : Nat} {x : Int} (hx : L.getD i 0 = x) (h : leadsG W H x = false) : goodAt W H L i = false := by simp only [goodAt, hx, h, Bool.false_and]
theorem goodAt_first {W H : Int} {L : List Int} {x : Int} (hx : L.getD 0 0 = x) (h : leadsG W H x = true) : goodAt W H L 0 = true := by
  simp only [goodAt, hx, h, decide_true, Bool.true_or, Bool.and_self]
theorem goodAt_next {W H : Int} {L : List Int} {j : Nat} {x y : Int} (hx : L.getD (j + 1) 0 = x) (hy : L.getD j 0 = y) (h : leadsG W H x = true) : goodAt W H L (j + 1) = decide (y < x) := by
  simp only [goodAt, Nat.add_sub_cancel, hx, hy, h, Bool.true_and]
  simp
end Go.Proofs.Ytecaehkckamhkaa
end

section
namespace Go.Proofs.Ytecaehkckamhkaa
open Go.ChangeShapes Go.WideShapes Go.ChangeAt Go.RowKit
set_option linter.unusedVariables false

theorem next_has {W H n p : Int} (h : 0 ≤ nextG W H n p) : hasG W H (nextG W H n p) = true := by
  have hat : ∀ x y, 0 ≤ atG W H x y → hasG W H (atG W H x y) = true := fun x y h => by
    unfold atG at h ⊢
    split at h
    · rename_i hc
      obtain ⟨hok, h0, h1, h2, h3⟩ := hc
      rw [if_pos ⟨hok, h0, h1, h2, h3⟩, hasG_iff]
      have hk : countG W H = W * H := by simp [countG, hok]
      obtain ⟨hW, hH⟩ := okG_cases hok
      rw [hk]
      rcases hW with rfl | rfl | rfl | rfl <;> rcases hH with rfl | rfl | rfl | rfl <;> omega
    · omega
  unfold nextG at h ⊢
  split at h
  · rename_i hh
    rw [if_pos hh]
    repeat' split at h
    all_goals first | omega | (simp [*] at *; done) | skip
  · omega
/-- The entry of a table of k nodes. -/
def tabG (k : Int) (P : List Int) (node to : Int) : Int := P.getD (node * k + to).toNat 0
def sizedG (W H : Int) (L P : List Int) : Bool := meshG W H L && decide ((P.length : Int) = countG W H * countG W H)
def askG (W H : Int) (L P : List Int) (node to : Int) : Bool := sizedG W H L P && hasG W H node && hasG W H to
def portAtG (W H : Int) (L P : List Int) (node to : Int) : Int :=
  if askG W H L P node to = true ∧ 0 ≤ tabG (countG W H) P node to ∧ tabG (countG W H) P node to ≤ 4 then tabG (countG W H) P node to else -1
/-- One step of a walk: the port leads through a channel that exists. -/
def stepsG (W H : Int) (L : List Int) (at' p : Int) : Bool := decide (0 ≤ p ∧ p ≤ 3) && hasChG W H L (4 * at' + p)
def walkF (W H : Int) (L P : List Int) (to : Int) : Nat → Int → Option (List Int)
  | 0, _ => none
  | f + 1, a =>
    if tabG (countG W H) P a to = 4 then (if a = to then some [] else none)
    else if stepsG W H L a (tabG (countG W H) P a to) then
      (walkF W H L P to f (nextG W H a (tabG (countG W H) P a to))).map ((4 * a + tabG (countG W H) P a to) :: ·)
    else none
def walkOf (W H : Int) (L P : List Int) (a b : Int) : List Int := (walkF W H L P b ((countG W H).toNat + 1) a).getD []
def walkG (W H : Int) (L P : List Int) (a b : Int) : List Int := if askG W H L P a b = true ∧ a ≠ b then walkOf W H L P a b else []
/-- Entry i of the square of nodes is in order. -/
def entryG (W H : Int) (L P : List Int) (a b : Int) : Bool :=
  if a = b then decide (tabG (countG W H) P a a = 4) else !(walkOf W H L P a b).isEmpty
def tableG (W H : Int) (L P : List Int) : Bool :=
  sizedG W H L P && (List.range (countG W H).toNat).all fun a => (List.range (countG W H).toNat).all fun b => entryG W H L P (a : Int) (b : Int)
/-- The number of channels of the walk of pair i. -/
def lenAt (W H : Int) (L P : List Int) (i : Nat) : Nat := (walkOf W H L P ((i : Int) / countG W H) ((i : Int) % countG W H)).length
def mostTo (W H : Int) (L P : List Int) : Nat → Nat
  | 0 => 0
  | k + 1 => max (mostTo W H L P k) (lenAt W H L P k)
def sqG (W H : Int) : Nat := (countG W H).toNat * (countG W H).toNat
def longG (W H : Int) (L P : List Int) : Int := if tableG W H L P then (mostTo W H L P (sqG W H) : Int) else -1
def minAt (W H : Int) (L P : List Int) (i : Nat) : Bool := decide ((lenAt W H L P i : Int) = distG W H ((i : Int) / countG W H) ((i : Int) % countG W H))
def minimalG (W H : Int) (L P : List Int) : Bool := tableG W H L P && (List.range (sqG W H)).all (minAt W H L P)

section
variable {W H : Int} {L P : List Int}
theorem sizedG_mesh (h : sizedG W H L P = true) : meshG W H L = true ∧ (P.length : Int) = countG W H * countG W H := by
  simpa [sizedG] using h
theorem askG_all {a b : Int} (h : askG W H L P a b = true) : sizedG W H L P = true ∧ hasG W H a = true ∧ hasG W H b = true := by
  simp only [askG, Bool.and_eq_true] at h; exact ⟨h.1.1, h.1.2, h.2⟩
/-- The place of an entry. -/
theorem tab_at {k a b : Int} {n : Nat} (h : (n : Int) = k * k) (ha0 : 0 ≤ a) (ha1 : a < k) (hb0 : 0 ≤ b) (hb1 : b < k) : 0 ≤ a * k + b ∧ a * k + b < n := by
  have h1 : 0 ≤ a * k := Int.mul_nonneg ha0 (by omega)
  have h2 : a * k ≤ (k - 1) * k := Int.mul_le_mul_of_nonneg_right (by omega) (by omega)
  have h3 : (k - 1) * k = k * k - k := by rw [Int.sub_mul, Int.one_mul]
  omega

theorem walkF_end {to a : Int} {f : Nat} (h : tabG (countG W H) P a to = 4) (he : a = to) : walkF W H L P to (f + 1) a = some [] := by subst he; simp [walkF, h]
theorem walkF_lost {to a : Int} {f : Nat} (h : tabG (countG W H) P a to = 4) (he : a ≠ to) : walkF W H L P to (f + 1) a = none := by simp [walkF, h, he]
theorem walkF_bad {to a p : Int} {f : Nat} (h : tabG (countG W H) P a to = p) (h4 : p ≠ 4) (hs : stepsG W H L a p = false) : walkF W H L P to (f + 1) a = none := by
  subst h; simp [walkF, h4, hs]
theorem walkF_go {to a p : Int} {f : Nat} (h : tabG (countG W H) P a to = p) (h4 : p ≠ 4) (hs : stepsG W H L a p = true) : walkF W H L P to (f + 1) a = (walkF W H L P to f (nextG W H a p)).map ((4 * a + p) :: ·) := by
  subst h; simp [walkF, h4, hs]
/-- A walk of which the first channels are known. -/
def restG (W H : Int) (L P : List Int) (to : Int) (acc : List Int) (f : Nat) (a : Int) : List Int := ((walkF W H L P to f a).map (acc ++ ·)).getD []
theorem rest_start (a b : Int) : restG W H L P b [] ((countG W H).toNat + 1) a = walkOf W H L P a b := by
  unfold restG walkOf
  cases walkF W H L P b ((countG W H).toNat + 1) a <;> simp
theorem rest_zero (to a : Int) (acc : List Int) : restG W H L P to acc 0 a = [] := rfl
theorem rest_end {to a : Int} {f : Nat} {acc : List Int} (h : tabG (countG W H) P a to = 4) (he : a = to) : restG W H L P to acc (f + 1) a = acc := by simp [restG, walkF_end h he]
theorem rest_lost {to a : Int} {f : Nat} {acc : List Int} (h : tabG (countG W H) P a to = 4) (he : a ≠ to) : restG W H L P to acc (f + 1) a = [] := by simp [restG, walkF_lost h he]
theorem rest_bad {to a p : Int} {f : Nat} {acc : List Int} (h : tabG (countG W H) P a to = p) (h4 : p ≠ 4) (hs : stepsG W H L a p = false) : restG W H L P to acc (f + 1) a = [] := by simp [restG, walkF_bad h h4 hs]
theorem rest_go {to a p : Int} {f : Nat} {acc : List Int} (h : tabG (countG W H) P a to = p) (h4 : p ≠ 4) (hs : stepsG W H L a p = true) : restG W H L P to acc (f + 1) a = restG W H L P to (acc ++ [4 * a + p]) f (nextG W H a p) := by
  simp only [restG, walkF_go h h4 hs, Option.map_map]
  congr 2
  funext x
  simp
theorem steps_next {a p : Int} (h : stepsG W H L a p = true) : 0 ≤ p ∧ p ≤ 3 ∧ hasChG W H L (4 * a + p) = true := by
  simp only [stepsG, Bool.and_eq_true, decide_eq_true_eq] at h; exact ⟨h.1.1, h.1.2, h.2⟩
theorem step_has {a p : Int} (h : stepsG W H L a p = true) : hasG W H (nextG W H a p) = true := by
  obtain ⟨h0, h3, hc⟩ := steps_next h
  simp only [hasChG, Bool.and_eq_true] at hc
  have h1 : 0 ≤ 4 * a + p ∧ 4 * a + p < 4 * countG W H ∧ 0 ≤ nextG W H ((4 * a + p) / 4) ((4 * a + p) % 4) := by simpa [leadsG] using hc.1
  have e1 : (4 * a + p) / 4 = a := by omega
  have e2 : (4 * a + p) % 4 = p := by omega
  rw [e1, e2] at h1
  exact next_has h1.2.2
theorem walkF_len {to : Int} : ∀ (f : Nat) (a : Int) (l : List Int), walkF W H L P to f a = some l → l.length < f
  | 0, _, _, h => by simp [walkF] at h
  | f + 1, a, l, h => by
    rw [walkF] at h
    split at h
    · split at h
      · cases h; simp
      · cases h
    · split at h
      · rw [Option.map_eq_some_iff] at h
        obtain ⟨m, hm, rfl⟩ := h
        have := walkF_len f _ m hm
        simp; omega
      · cases h
theorem walkOf_len (a b : Int) : (walkOf W H L P a b).length ≤ 16 := by
  unfold walkOf
  have hc := countG_le W H
  cases h : walkF W H L P b ((countG W H).toNat + 1) a with
  | none => simp
  | some l => have := walkF_len _ _ _ h; simp; omega

/-- The pairs of nodes up to i are in order. -/
def pairsTo (W H : Int) (L P : List Int) (a b : Nat) : Prop :=
  (∀ x y : Nat, x < a → (y : Int) < countG W H → entryG W H L P x y = true) ∧ ∀ y : Nat, y < b → entryG W H L P a y = true
theorem pairs_zero : pairsTo W H L P 0 0 := ⟨fun _ _ h => by omega, fun _ h => by omega⟩
theorem pairs_next {a b : Nat} (h : pairsTo W H L P a b) (he : entryG W H L P a b = true) : pairsTo W H L P a (b + 1) :=
  ⟨h.1, fun y hy => by
    rcases Nat.lt_succ_iff_lt_or_eq.1 hy with h1 | rfl
    · exact h.2 y h1
    · exact he⟩
theorem pairs_row {a b : Nat} (h : pairsTo W H L P a b) (hb : (b : Int) = countG W H) : pairsTo W H L P (a + 1) 0 :=
  ⟨fun x y hx hy => by
    rcases Nat.lt_succ_iff_lt_or_eq.1 hx with h1 | rfl
    · exact h.1 x y h1 hy
    · exact h.2 y (by omega), fun _ h => by omega⟩
theorem tableG_yes {a b : Nat} (hs : sizedG W H L P = true) (h : pairsTo W H L P a b) (ha : (a : Int) = countG W H) : tableG W H L P = true := by
  simp only [tableG, hs, Bool.true_and, List.all_eq_true, List.mem_range]
  intro x hx y hy
  exact h.1 x y (by omega) (by omega)
theorem tableG_no {a b : Nat} (ha : (a : Int) < countG W H) (hb : (b : Int) < countG W H) (h : entryG W H L P a b = false) : tableG W H L P = false := by
  cases ht : tableG W H L P with
  | false => rfl
  | true =>
    simp only [tableG, Bool.and_eq_true, List.all_eq_true, List.mem_range] at ht
    have := ht.2 a (by omega) b (by omega)
    rw [h] at this
    cases this
theorem tableG_unsized (h : sizedG W H L P = false) : tableG W H L P = false := by simp [tableG, h]
theorem tableG_sized (h : tableG W H L P = true) : sizedG W H L P = true := by simp only [tableG, Bool.and_eq_true] at h; exact h.1
theorem tableG_entry {a b : Int} (h : tableG W H L P = true) (ha : hasG W H a = true) (hb : hasG W H b = true) : entryG W H L P a b = true := by
  simp only [tableG, Bool.and_eq_true, List.all_eq_true, List.mem_range] at h
  have h1 := hasG_iff.1 ha
  have h2 := hasG_iff.1 hb
  have := h.2 a.toNat (by omega) b.toNat (by omega)
  rwa [Int.toNat_of_nonneg h1.1, Int.toNat_of_nonneg h2.1] at this
theorem entry_same {a : Int} : entryG W H L P a a = decide (tabG (countG W H) P a a = 4) := by simp [entryG]
theorem entry_two {a b : Int} (h : a ≠ b) : entryG W H L P a b = !(walkOf W H L P a b).isEmpty := by simp [entryG, h]

theorem mostTo_le {i k : Nat} (h : i < k) : lenAt W H L P i ≤ mostTo W H L P k := by
  induction k with
  | zero => omega
  | succ k ih =>
    rw [mostTo]
    rcases Nat.lt_succ_iff_lt_or_eq.1 h with h1 | rfl
    · exact Nat.le_trans (ih h1) (Nat.le_max_left _ _)
    · exact Nat.le_max_right _ _
theorem mostTo_16 (k : Nat) : mostTo W H L P k ≤ 16 := by
  induction k with
  | zero => simp [mostTo]
  | succ k ih => rw [mostTo]; have := walkOf_len (W := W) (H := H) (L := L) (P := P) ((k : Int) / countG W H) ((k : Int) % countG W H); unfold lenAt; omega
/-- Pair i of the square is two nodes. -/
theorem pair_at {i : Nat} (h : i < sqG W H) : hasG W H ((i : Int) / countG W H) = true ∧ hasG W H ((i : Int) % countG W H) = true := by
  have hc := countG_le W H
  unfold sqG at h
  have hk : 0 < countG W H := by
    rcases Int.lt_or_le 0 (countG W H) with h1 | h1
    · exact h1
    · have : (countG W H).toNat = 0 := by omega
      rw [this] at h; omega
  have e : (i : Int) < countG W H * countG W H := by
    have : ((countG W H).toNat : Int) = countG W H := Int.toNat_of_nonneg hc.1
    rw [← this]; exact_mod_cast h
  exact ⟨hasG_iff.2 ⟨Int.ediv_nonneg (by omega) hc.1, Int.ediv_lt_of_lt_mul hk e⟩, hasG_iff.2 ⟨Int.emod_nonneg _ (by omega), Int.emod_lt_of_pos _ hk⟩⟩
theorem sq_int (W H : Int) : (sqG W H : Int) = countG W H * countG W H := by
  have := countG_le W H
  unfold sqG
  rw [Int.natCast_mul, Int.toNat_of_nonneg this.1]
theorem sq_le (W H : Int) : sqG W H ≤ 256 := by
  have h := countG_le W H
  have : (countG W H).toNat ≤ 16 := by omega
  exact Nat.mul_le_mul this this
theorem walk_le {a b : Int} (ha : hasG W H a = true) (hb : hasG W H b = true) : (walkOf W H L P a b).length ≤ mostTo W H L P (sqG W H) := by
  have h1 := hasG_iff.1 ha
  have h2 := hasG_iff.1 hb
  have h3 := tab_at (k := countG W H) (n := sqG W H) (sq_int W H) h1.1 h1.2 h2.1 h2.2
  have e1 : (((a * countG W H + b).toNat : Nat) : Int) = a * countG W H + b := Int.toNat_of_nonneg h3.1
  have e2 : (a * countG W H + b) / countG W H = a := by
    rw [Int.add_comm, Int.add_mul_ediv_right _ _ (by omega), Int.ediv_eq_zero_of_lt h2.1 h2.2]; omega
  have e3 : (a * countG W H + b) % countG W H = b := by
    rw [Int.add_comm, Int.add_mul_emod_self_right]; exact Int.emod_eq_of_lt h2.1 h2.2
  have := mostTo_le (W := W) (H := H) (L := L) (P := P) (i := (a * countG W H + b).toNat) (k := sqG W H) (by omega)
  unfold lenAt at this
  rwa [e1, e2, e3] at this
/-- The first k pairs are minimal. -/
def minTo (W H : Int) (L P : List Int) (k : Nat) : Prop := ∀ i, i < k → minAt W H L P i = true
theorem minTo_zero : minTo W H L P 0 := fun _ h => by omega
theorem minTo_succ {k : Nat} (h : minTo W H L P k) (hk : minAt W H L P k = true) : minTo W H L P (k + 1) := fun i hi => by
  rcases Nat.lt_succ_iff_lt_or_eq.1 hi with h1 | rfl
  · exact h i h1
  · exact hk
theorem minimalG_yes (ht : tableG W H L P = true) (h : minTo W H L P (sqG W H)) : minimalG W H L P = true := by
  simp only [minimalG, ht, Bool.true_and, List.all_eq_true, List.mem_range]; exact h
theorem minimalG_no {i : Nat} (hi : i < sqG W H) (h : minAt W H L P i = false) : minimalG W H L P = false := by
  cases hm : minimalG W H L P with
  | false => rfl
  | true =>
    simp only [minimalG, Bool.and_eq_true, List.all_eq_true, List.mem_range] at hm
    have := hm.2 i hi
    rw [h] at this
    cases this
theorem minimalG_bad (h : tableG W H L P = false) : minimalG W H L P = false := by simp [minimalG, h]
end
end Go.Proofs.Ytecaehkckamhkaa
end

section
namespace Go.Proofs.Ytecaehkckamhkaa
open Go.ChangeShapes Go.WideShapes Go.ChangeAt Go.RowKit
set_option linter.unusedVariables false

def colPort (x u : Int) : Int := if u < x then 3 else 1
def rowPort (y v : Int) : Int := if v < y then 0 else 2
def mixRule (r b : Int) : Int := if r = 4 then 1 + b % 2 else r
/-- Does the rule take the column first? -/
def firstG (r x y u v : Int) : Bool := if r = 2 then decide (y = v) else if r = 3 then decide (u < x) || decide (y = v) else decide (x ≠ u)
def stdPort (W r a b : Int) : Int :=
  if a = b then 4 else if firstG (mixRule r b) (a % W) (a / W) (b % W) (b / W) then colPort (a % W) (b % W) else rowPort (a / W) (b / W)
def stdTo (W H r : Int) (k : Nat) : List Int := (List.range k).map fun i : Nat => stdPort W r ((i : Int) / countG W H) ((i : Int) % countG W H)
def stdTab (W H r : Int) : List Int := stdTo W H r (sqG W H)
def stdGood (W H r : Int) : Bool := minimalG W H [] (stdTab W H r) && decide ((mostTo W H [] (stdTab W H r) (sqG W H) : Int) = diamG W H)

theorem std_111 : stdGood 1 1 1 = true := by decide +kernel
theorem std_112 : stdGood 1 1 2 = true := by decide +kernel
theorem std_113 : stdGood 1 1 3 = true := by decide +kernel
theorem std_114 : stdGood 1 1 4 = true := by decide +kernel
theorem std_121 : stdGood 1 2 1 = true := by decide +kernel
theorem std_122 : stdGood 1 2 2 = true := by decide +kernel
theorem std_123 : stdGood 1 2 3 = true := by decide +kernel
theorem std_124 : stdGood 1 2 4 = true := by decide +kernel
theorem std_131 : stdGood 1 3 1 = true := by decide +kernel
theorem std_132 : stdGood 1 3 2 = true := by decide +kernel
theorem std_133 : stdGood 1 3 3 = true := by decide +kernel
theorem std_134 : stdGood 1 3 4 = true := by decide +kernel
theorem std_141 : stdGood 1 4 1 = true := by decide +kernel
theorem std_142 : stdGood 1 4 2 = true := by decide +kernel
theorem std_143 : stdGood 1 4 3 = true := by decide +kernel
theorem std_144 : stdGood 1 4 4 = true := by decide +kernel
theorem std_211 : stdGood 2 1 1 = true := by decide +kernel
theorem std_212 : stdGood 2 1 2 = true := by decide +kernel
theorem std_213 : stdGood 2 1 3 = true := by decide +kernel
theorem std_214 : stdGood 2 1 4 = true := by decide +kernel
theorem std_221 : stdGood 2 2 1 = true := by decide +kernel
theorem std_222 : stdGood 2 2 2 = true := by decide +kernel
theorem std_223 : stdGood 2 2 3 = true := by decide +kernel
theorem std_224 : stdGood 2 2 4 = true := by decide +kernel
theorem std_231 : stdGood 2 3 1 = true := by decide +kernel
theorem std_232 : stdGood 2 3 2 = true := by decide +kernel
theorem std_233 : stdGood 2 3 3 = true := by decide +kernel
theorem std_234 : stdGood 2 3 4 = true := by decide +kernel
theorem std_241 : stdGood 2 4 1 = true := by decide +kernel
theorem std_242 : stdGood 2 4 2 = true := by decide +kernel
theorem std_243 : stdGood 2 4 3 = true := by decide +kernel
theorem std_244 : stdGood 2 4 4 = true := by decide +kernel
theorem std_311 : stdGood 3 1 1 = true := by decide +kernel
theorem std_312 : stdGood 3 1 2 = true := by decide +kernel
theorem std_313 : stdGood 3 1 3 = true := by decide +kernel
theorem std_314 : stdGood 3 1 4 = true := by decide +kernel
theorem std_321 : stdGood 3 2 1 = true := by decide +kernel
theorem std_322 : stdGood 3 2 2 = true := by decide +kernel
theorem std_323 : stdGood 3 2 3 = true := by decide +kernel
theorem std_324 : stdGood 3 2 4 = true := by decide +kernel
theorem std_331 : stdGood 3 3 1 = true := by decide +kernel
theorem std_332 : stdGood 3 3 2 = true := by decide +kernel
theorem std_333 : stdGood 3 3 3 = true := by decide +kernel
theorem std_334 : stdGood 3 3 4 = true := by decide +kernel
theorem std_341 : stdGood 3 4 1 = true := by decide +kernel
theorem std_342 : stdGood 3 4 2 = true := by decide +kernel
theorem std_343 : stdGood 3 4 3 = true := by decide +kernel
theorem std_344 : stdGood 3 4 4 = true := by decide +kernel
theorem std_411 : stdGood 4 1 1 = true := by decide +kernel
theorem std_412 : stdGood 4 1 2 = true := by decide +kernel
theorem std_413 : stdGood 4 1 3 = true := by decide +kernel
theorem std_414 : stdGood 4 1 4 = true := by decide +kernel
theorem std_421 : stdGood 4 2 1 = true := by decide +kernel
theorem std_422 : stdGood 4 2 2 = true := by decide +kernel
theorem std_423 : stdGood 4 2 3 = true := by decide +kernel
theorem std_424 : stdGood 4 2 4 = true := by decide +kernel
theorem std_431 : stdGood 4 3 1 = true := by decide +kernel
theorem std_432 : stdGood 4 3 2 = true := by decide +kernel
theorem std_433 : stdGood 4 3 3 = true := by decide +kernel
theorem std_434 : stdGood 4 3 4 = true := by decide +kernel
theorem std_441 : stdGood 4 4 1 = true := by decide +kernel
theorem std_442 : stdGood 4 4 2 = true := by decide +kernel
theorem std_443 : stdGood 4 4 3 = true := by decide +kernel
theorem std_444 : stdGood 4 4 4 = true := by decide +kernel
theorem std_good {W H r : Int} (h : okG W H = true) (h1 : 1 ≤ r) (h4 : r ≤ 4) : stdGood W H r = true := by
  obtain ⟨hW, hH⟩ := okG_cases h
  have hr : r = 1 ∨ r = 2 ∨ r = 3 ∨ r = 4 := by omega
  clear h h1 h4
  rcases hW with rfl | rfl | rfl | rfl
  · rcases hH with rfl | rfl | rfl | rfl
    · rcases hr with rfl | rfl | rfl | rfl
      · exact std_111
      · exact std_112
      · exact std_113
      · exact std_114
    · rcases hr with rfl | rfl | rfl | rfl
      · exact std_121
      · exact std_122
      · exact std_123
      · exact std_124
    · rcases hr with rfl | rfl | rfl | rfl
      · exact std_131
      · exact std_132
      · exact std_133
      · exact std_134
    · rcases hr with rfl | rfl | rfl | rfl
      · exact std_141
      · exact std_142
      · exact std_143
      · exact std_144
  · rcases hH with rfl | rfl | rfl | rfl
    · rcases hr with rfl | rfl | rfl | rfl
      · exact std_211
      · exact std_212
      · exact std_213
      · exact std_214
    · rcases hr with rfl | rfl | rfl | rfl
      · exact std_221
      · exact std_222
      · exact std_223
      · exact std_224
    · rcases hr with rfl | rfl | rfl | rfl
      · exact std_231
      · exact std_232
      · exact std_233
      · exact std_234
    · rcases hr with rfl | rfl | rfl | rfl
      · exact std_241
      · exact std_242
      · exact std_243
      · exact std_244
  · rcases hH with rfl | rfl | rfl | rfl
    · rcases hr with rfl | rfl | rfl | rfl
      · exact std_311
      · exact std_312
      · exact std_313
      · exact std_314
    · rcases hr with rfl | rfl | rfl | rfl
      · exact std_321
      · exact std_322
      · exact std_323
      · exact std_324
    · rcases hr with rfl | rfl | rfl | rfl
      · exact std_331
      · exact std_332
      · exact std_333
      · exact std_334
    · rcases hr with rfl | rfl | rfl | rfl
      · exact std_341
      · exact std_342
      · exact std_343
      · exact std_344
  · rcases hH with rfl | rfl | rfl | rfl
    · rcases hr with rfl | rfl | rfl | rfl
      · exact std_411
      · exact std_412
      · exact std_413
      · exact std_414
    · rcases hr with rfl | rfl | rfl | rfl
      · exact std_421
      · exact std_422
      · exact std_423
      · exact std_424
    · rcases hr with rfl | rfl | rfl | rfl
      · exact std_431
      · exact std_432
      · exact std_433
      · exact std_434
    · rcases hr with rfl | rfl | rfl | rfl
      · exact std_441
      · exact std_442
      · exact std_443
      · exact std_444
theorem std_facts {W H r : Int} (h : okG W H = true) (h1 : 1 ≤ r) (h4 : r ≤ 4) : tableG W H [] (stdTab W H r) = true ∧ minimalG W H [] (stdTab W H r) = true ∧ longG W H [] (stdTab W H r) = diamG W H := by
  have hg := std_good h h1 h4
  simp only [stdGood, Bool.and_eq_true, decide_eq_true_eq] at hg
  have ht : tableG W H [] (stdTab W H r) = true := by have := hg.1; simp only [minimalG, Bool.and_eq_true] at this; exact this.1
  exact ⟨ht, hg.1, by rw [longG, if_pos ht]; exact hg.2⟩
theorem stdTo_succ (W H r : Int) (k : Nat) : stdTo W H r (k + 1) = stdTo W H r k ++ [stdPort W r ((k : Int) / countG W H) ((k : Int) % countG W H)] := by
  simp [stdTo, List.range_succ]
theorem stdTo_len (W H r : Int) (k : Nat) : (stdTo W H r k).length = k := by simp [stdTo]
theorem stdPort_le (W r a b : Int) : 0 ≤ stdPort W r a b ∧ stdPort W r a b ≤ 4 := by
  unfold stdPort colPort rowPort
  repeat' split
  all_goals omega
end Go.Proofs.Ytecaehkckamhkaa
end

section
namespace Go.Proofs.Ytecaehkckamhkaa
open Go.ChangeShapes Go.WideShapes Go.ChangeAt Go.RowKit
set_option linter.unusedVariables false
set_option linter.unusedSimpArgs false

def towardG (s g lo hi : Int) : Int := if g < s then lo else if g > s then hi else 4
def rowTo (W a b : Int) : Int := towardG (a % W) (b % W) 3 1
def colTo (W a b : Int) : Int := towardG (a / W) (b / W) 0 2
def xyG (W a b : Int) : Int := if rowTo W a b = 4 then colTo W a b else rowTo W a b
def yxG (W a b : Int) : Int := if colTo W a b = 4 then rowTo W a b else colTo W a b
def westG (W a b : Int) : Int := if rowTo W a b = 3 then 3 else yxG W a b
def mixG (W a b : Int) : Int := if b % 2 = 0 then xyG W a b else yxG W a b

theorem same_place {W H a b : Int} (ha : hasG W H a = true) (hb : hasG W H b = true) : a = b ↔ a % W = b % W ∧ a / W = b / W := by
  obtain ⟨_, _, _, _, ea⟩ := place_of ha
  obtain ⟨_, _, _, _, eb⟩ := place_of hb
  exact ⟨fun h => by subst h; exact ⟨rfl, rfl⟩, fun ⟨h1, h2⟩ => by rw [← ea, ← eb, h1, h2]⟩
theorem xy_first {x u y v : Int} : (if towardG x u 3 1 = 4 then towardG y v 0 2 else towardG x u 3 1) = if x = u ∧ y = v then 4 else if x ≠ u then colPort x u else rowPort y v := by
  simp only [towardG, colPort, rowPort]
  split <;> split <;> (try split) <;> (try split) <;> (try split) <;> omega
theorem yx_first {x u y v : Int} : (if towardG y v 0 2 = 4 then towardG x u 3 1 else towardG y v 0 2) = if x = u ∧ y = v then 4 else if y = v then colPort x u else rowPort y v := by
  simp only [towardG, colPort, rowPort]
  split <;> split <;> (try split) <;> (try split) <;> (try split) <;> omega
theorem xy_std {W H a b : Int} (ha : hasG W H a = true) (hb : hasG W H b = true) : xyG W a b = stdPort W 1 a b := by
  refine (xy_first (x := a % W) (u := b % W) (y := a / W) (v := b / W)).trans ?_
  have hp := same_place ha hb
  by_cases h : a = b
  · rw [if_pos (hp.1 h), stdPort, if_pos h]
  · rw [if_neg (fun e => h (hp.2 e)), stdPort, if_neg h]
    simp [firstG, mixRule]
theorem yx_std {W H a b : Int} (ha : hasG W H a = true) (hb : hasG W H b = true) : yxG W a b = stdPort W 2 a b := by
  refine (yx_first (x := a % W) (u := b % W) (y := a / W) (v := b / W)).trans ?_
  have hp := same_place ha hb
  by_cases h : a = b
  · rw [if_pos (hp.1 h), stdPort, if_pos h]
  · rw [if_neg (fun e => h (hp.2 e)), stdPort, if_neg h]
    simp [firstG, mixRule]
theorem west_first {x u y v : Int} : (if towardG x u 3 1 = 3 then 3 else if towardG y v 0 2 = 4 then towardG x u 3 1 else towardG y v 0 2) = if x = u ∧ y = v then 4 else if u < x ∨ y = v then colPort x u else rowPort y v := by
  simp only [towardG, colPort, rowPort]
  repeat' split
  all_goals omega
theorem west_std {W H a b : Int} (ha : hasG W H a = true) (hb : hasG W H b = true) : westG W a b = stdPort W 3 a b := by
  refine (west_first (x := a % W) (u := b % W) (y := a / W) (v := b / W)).trans ?_
  have hp := same_place ha hb
  by_cases h : a = b
  · rw [if_pos (hp.1 h), stdPort, if_pos h]
  · rw [if_neg (fun e => h (hp.2 e)), stdPort, if_neg h]
    simp [firstG, mixRule]
theorem mix_std {W H a b : Int} (ha : hasG W H a = true) (hb : hasG W H b = true) : mixG W a b = stdPort W 4 a b := by
  unfold mixG
  have h1 := xy_std ha hb
  have h2 := yx_std ha hb
  by_cases h : b % 2 = 0
  · rw [if_pos h, h1]
    simp [stdPort, mixRule, h]
  · rw [if_neg h, h2]
    have : b % 2 = 1 := by omega
    simp [stdPort, mixRule, this]
end Go.Proofs.Ytecaehkckamhkaa
end

section
namespace Go.Proofs.Ytecaehkckamhkaa
open Go.ChangeShapes Go.WideShapes Go.ChangeAt Go.RowKit
set_option linter.unusedVariables false

theorem own_form {w : World} {base : Nat} {e : TypeId} {size n : Nat} {v : Value} {xs : List Value} (h : w.ownsRow base e size v n xs) :
    ∃ A cap, v = .slice A n cap ∧ (0 < n → ∃ g, A = some ⟨g, 0, none⟩) := by
  rcases h.2 with ⟨rfl, rfl⟩ | ⟨g, cap, cur, rfl, _⟩
  · exact ⟨none, 0, rfl, fun h => absurd h (by omega)⟩
  · exact ⟨_, cap, rfl, fun _ => ⟨g, rfl⟩⟩
theorem own_le {w : World} {base : Nat} {e : TypeId} {size n : Nat} {v : Value} {xs : List Value} (h : w.ownsRow base e size v n xs) : n ≤ maxLen := by
  rcases h.2 with ⟨rfl, rfl⟩ | ⟨g, cap, cur, rfl, _, _, h1, h2, _⟩
  · exact Nat.zero_le _
  · exact Nat.le_trans h1 h2
theorem own_drewN {w : World} {base : Nat} {e : TypeId} {size n : Nat} {v : Value} {xs : List Value} (h : w.ownsRow base e size v n xs) (m : Nat) : (w.drewN m).ownsRow base e size v n xs := h

def strsV (l : List ByteArray) : List Value := l.map Value.string
theorem strsV_append (a b : List ByteArray) : strsV (a ++ b) = strsV a ++ strsV b := by simp [strsV]
def byteOf (s : ByteArray) (i : Nat) : Nat := (s.data.toList.getD i 0).toNat
theorem byteOf_lt (s : ByteArray) (i : Nat) : byteOf s i < 256 := (s.data.toList.getD i 0).toNat_lt
theorem byteOf_get (s : ByteArray) (i : Nat) (h : i < s.size) : s[i].toNat = byteOf s i := by
  unfold byteOf
  rw [List.getD_eq_getElem?_getD, List.getElem?_eq_getElem (by simpa using h)]; rfl
def RetS (s : ByteArray) (w : World) (e : Ending) (w' : World) : Prop := e = .returned (.string s) ∧ w.grownBy w' none

def RetB (b : Bool) (w : World) (e : Ending) (w' : World) : Prop := e = .returned (.bool b) ∧ w.grownBy w' none
def RetI (k : Int) (row : Option Nat) (w : World) (e : Ending) (w' : World) : Prop := e = .returned (.int .i64 k) ∧ w.grownBy w' row

theorem gb_of_none {a b : World} (h : a.grownBy b none) (row : Option Nat) : a.grownBy b row := ⟨h.os, h.tape, h.output, h.size, fun i hi _ => h.block i hi (by simp)⟩
theorem strs_cell {w : World} {base : Nat} {n g cap : Nat} {l : List ByteArray} (h : w.ownsRow base 9 1 (.slice (some ⟨g, 0, none⟩) n cap) n (strsV l)) (k : Nat) (hk : k < n) (hl : l.length = n) :
    w.cell? ⟨g, k, none⟩ = some (.string l[k]) := by
  rw [h.cellAt k (by omega)]
  simp [strsV]

/-- A row of the call's own stays over a call that writes new blocks alone. -/
theorem own_below {w w' : World} {base : Nat} {e : TypeId} {size n : Nat} {v : Value} {xs : List Value} (h : w.ownsRow base e size v n xs) (hb : Below w.heap.size w w') : w'.ownsRow base e size v n xs :=
  h.kept (gb_of_below hb none) (by cases hv : v.ownBlock <;> simp)
theorem own_none {w w' : World} {base : Nat} {e : TypeId} {size n : Nat} {v : Value} {xs : List Value} (h : w.ownsRow base e size v n xs) (hb : w.grownBy w' none) : w'.ownsRow base e size v n xs :=
  h.kept hb (by cases hv : v.ownBlock <;> simp)
theorem own_apart {w w' : World} {b1 b2 : Nat} {e1 e2 : TypeId} {s1 s2 n1 n2 : Nat} {v1 v2 : Value} {x1 x2 : List Value} (h1 : w.ownsRow b1 e1 s1 v1 n1 x1) (hlt : ∀ k, v1.ownBlock = some k → k < b2) (h2 : w.ownsRow b2 e2 s2 v2 n2 x2) (hg : w.grownBy w' v2.ownBlock) : w'.ownsRow b1 e1 s1 v1 n1 x1 :=
  h1.kept hg (by
    cases hv : v1.ownBlock with
    | none => exact .inl rfl
    | some k => exact .inr (fun e => by have := hlt k hv; have := (h2.lt k e.symm).1; omega))
theorem info_str : (Try.prog.info? 9).map (fun i => (i.zero, i.size, i.bytes)) = some (some (.string ⟨#[]⟩), 1, 16) := by kernel_rfl

/-- 'string([]byte{x})'. -/
theorem conv_one (W : World) (c : Nat) (z : Int) (hz : z = (c : Int)) (hc : c < 256) :
    (convert 42 9 (.slice (some ⟨W.heap.size, 0, none⟩) 1 1)).run Try.prog (W.alloc (.cells #[.int .u8 z] 5)) = .ok (.string ⟨#[UInt8.ofNat c]⟩) (W.alloc (.cells #[.int .u8 z] 5)) := by
  have h := run_convert_bytes_back (P := Try.prog) (W.alloc (.cells #[.int .u8 z] 5)) 42 9 5 ⟨W.heap.size, 0, none⟩ 1 [UInt8.ofNat c] Try.underlying42 Try.underlying5 Try.underlying9 (fun j hj => by
    obtain rfl : j = 0 := by simp at hj; omega
    simp [Addr.add, hz, Nat.mod_eq_of_lt hc])
  exact h

end Go.Proofs.Ytecaehkckamhkaa
end

section
namespace Go.Proofs.Ytecaehkckamhkaa
open Go.ChangeShapes Go.WideShapes Go.ChangeAt Go.RowKit
set_option linter.unusedVariables false

theorem boxi_blk {w w1 : World} {T : TypeId} {cs : Array Value} (h : (w.alloc (.cells cs T)).grownBy w1 none) : Blk w1 w.heap.size T cs := (Blk.new w T cs).grown h (by simp)
theorem boxi_gb {w w1 : World} {o : Obj} (h : (w.alloc o).grownBy w1 none) : w.grownBy w1 none := gb_trans (gb_alloc (gb_refl _ _) _) h

theorem implGridOk (W H : Int) (w : World) :
    Calls Try.prog 73 #[.agg #[.int .i64 W, .int .i64 H]] w (RetB (okG W H) w) := by
  by_cases h1 : W ≥ 1 <;> by_cases h2 : W ≤ 4 <;> by_cases h3 : H ≥ 1 <;> by_cases h4 : H ≤ 4
  all_goals first | (exfalso; omega) | skip
  all_goals
    go_enter Try.func73, Try.ntmps73
    go_wp2_with fail
    go_ret
    exact ⟨ret_bool (by simp [okG] <;> omega), gb_alloc (gb_refl _ _) _⟩

theorem implNodeCount (W H : Int) (w : World) :
    Calls Try.prog 66 #[.agg #[.int .i64 W, .int .i64 H]] w (RetI (countG W H) none w) := by
  cases hok : okG W H with
  | true =>
    obtain ⟨hW, hH⟩ := okG_cases hok
    have hm : wrap64 (W * H) = countG W H := by
      simp only [countG, hok, if_true]
      rcases hW with rfl | rfl | rfl | rfl <;> rcases hH with rfl | rfl | rfl | rfl <;> exact IntWalk.wrap64_in _ (by omega)
    have Hm := Lib.hid hm
    clear hW hH hm
    go_enter Try.func66, Try.ntmps66
    go_wp2_with fail
    refine (implGridOk W H _).mono ?_
    rintro e w1 ⟨rfl, hg⟩
    have hb := boxi_blk hg
    have c0 : w1.cell? ⟨w.heap.size, 0, none⟩ = some (.int .i64 W) := hb.cell 0
    have c1 : w1.cell? ⟨w.heap.size, 1, none⟩ = some (.int .i64 H) := hb.cell 1
    have Hg := Lib.hid hg
    clear hg hb
    rw [hok]
    go_wp2_with fail
    go_ret
    exact ⟨ret_int64 (by rw [← Hm.out]), boxi_gb Hg.out⟩
  | false =>
    go_enter Try.func66, Try.ntmps66
    go_wp2_with fail
    refine (implGridOk W H _).mono ?_
    rintro e w1 ⟨rfl, hg⟩
    rw [hok]
    go_wp2_with fail
    go_ret
    exact ⟨ret_int64 (by simp [countG, hok]), boxi_gb hg⟩

theorem implHasNode (W H n : Int) (w : World) :
    Calls Try.prog 71 #[.agg #[.int .i64 W, .int .i64 H], .int .i64 n] w (RetB (hasG W H n) w) := by
  obtain ⟨k, hk⟩ : ∃ k, countG W H = k := ⟨_, rfl⟩
  by_cases h0 : n ≥ 0
  · by_cases h1 : n < k
    all_goals
      go_enter Try.func71, Try.ntmps71
      go_wp2_with fail
      refine (implNodeCount W H _).mono ?_
      rintro e w1 ⟨rfl, hg⟩
      rw [hk]
      go_wp2_with fail
      go_ret
      exact ⟨ret_bool (by simp [hasG, hk]; omega), boxi_gb hg⟩
  · go_enter Try.func71, Try.ntmps71
    go_wp2_with fail
    go_ret
    exact ⟨ret_bool (by simp [hasG, hk]; omega), gb_alloc (gb_refl _ _) _⟩

def hasPlaceG (W H x y : Int) : Bool := decide (okG W H = true ∧ 0 ≤ x ∧ x < W ∧ 0 ≤ y ∧ y < H)

theorem implHasPlace (W H x y : Int) (w : World) :
    Calls Try.prog 127 #[.agg #[.int .i64 W, .int .i64 H], .int .i64 x, .int .i64 y] w (RetB (hasPlaceG W H x y) w) := by
  cases hok : okG W H with
  | true =>
    obtain ⟨p1, p2, p3, p4⟩ := okG_iff.1 hok
    by_cases h1 : x ≥ 0 <;> by_cases h2 : x < W <;> by_cases h3 : y ≥ 0 <;> by_cases h4 : y < H
    all_goals first | (exfalso; omega) | skip
    all_goals
      go_enter Try.func127, Try.ntmps127
      go_wp2_with fail
      refine (implGridOk W H _).mono ?_
      rintro e w1 ⟨rfl, hg⟩
      have hb := boxi_blk hg
      have c0 := hb.cell 0
      have c1 := hb.cell 1
      have Hg := Lib.hid hg
      clear hg hb
      simp at c0 c1
      rw [hok]
      go_wp2_with fail
      go_ret
      exact ⟨ret_bool (by
        unfold hasPlaceG
        first
        | exact (decide_eq_true ⟨hok, by omega⟩).symm
        | exact (decide_eq_false (fun h => by have := h.2; omega)).symm
        | exact decide_eq_decide.2 ⟨fun h => by omega, fun h => h.2.2.2.2⟩), boxi_gb Hg.out⟩
  | false =>
    go_enter Try.func127, Try.ntmps127
    go_wp2_with fail
    refine (implGridOk W H _).mono ?_
    rintro e w1 ⟨rfl, hg⟩
    rw [hok]
    go_wp2_with fail
    go_ret
    exact ⟨ret_bool (by simp [hasPlaceG, hok]), boxi_gb hg⟩

theorem implNodeAt (W H x y : Int) (w : World) :
    Calls Try.prog 119 #[.agg #[.int .i64 W, .int .i64 H], .int .i64 x, .int .i64 y] w (RetI (atG W H x y) none w) := by
  cases hp : hasPlaceG W H x y with
  | true =>
    obtain ⟨hok, hx0, hx1, hy0, hy1⟩ : okG W H = true ∧ 0 ≤ x ∧ x < W ∧ 0 ≤ y ∧ y < H := by simpa [hasPlaceG] using hp
    obtain ⟨hW, hH⟩ := okG_cases hok
    rcases hW with rfl | rfl | rfl | rfl
    all_goals
      go_enter Try.func119, Try.ntmps119
      go_wp2_with fail
      refine (implHasPlace _ H x y _).mono ?_
      rintro e w1 ⟨rfl, hg⟩
      have hb := boxi_blk hg
      have c0 := hb.cell 0
      have Hg := Lib.hid hg
      clear hg hb
      simp at c0
      rw [hp]
      go_wp2_with fail
      go_ret
      exact ⟨ret_int64 (by unfold atG; rw [if_pos ⟨hok, by omega⟩] <;> omega), boxi_gb Hg.out⟩
  | false =>
    go_enter Try.func119, Try.ntmps119
    go_wp2_with fail
    refine (implHasPlace W H x y _).mono ?_
    rintro e w1 ⟨rfl, hg⟩
    rw [hp]
    go_wp2_with fail
    go_ret
    exact ⟨ret_int64 (by unfold atG; rw [if_neg (by simpa [hasPlaceG] using hp)]), boxi_gb hg⟩
end Go.Proofs.Ytecaehkckamhkaa
end

section
namespace Go.Proofs.Ytecaehkckamhkaa
open Go.ChangeShapes Go.WideShapes Go.ChangeAt Go.RowKit
set_option linter.unusedVariables false

/-- A node's column and row. -/
theorem implPlace (W H n x y : Int) (hh : hasG W H n = true) (hx : n % W = x) (hy : n / W = y) (w : World) :
    Calls Try.prog 79 #[.agg #[.int .i64 W, .int .i64 H], .int .i64 n] w fun e w' => e = .returned (.tuple #[.int .i64 x, .int .i64 y]) ∧ w.grownBy w' none := by
  obtain ⟨hW, hH⟩ := okG_cases (hasG_ok hh).1
  obtain ⟨h0, h1⟩ := hasG_le hh
  have hq := row_wrap h0 h1 hW
  have da : n.tdiv W = y := by rw [Int.tdiv_eq_ediv_of_nonneg h0]; exact hy
  have ta : n.tmod W = x := by rw [Int.tmod_eq_emod_of_nonneg h0]; exact hx
  obtain ⟨a0, a1, a2, a3, a4⟩ := place_of hh
  rw [hx] at a0 a1
  rw [hy] at a2 a3
  have hWn : W ≠ 0 := by omega
  have hW1 : 1 ≤ W := by omega
  have hW2 : W ≤ 4 := by omega
  have hH2 : H ≤ 4 := by omega
  clear hW hH hx hy hq a4 h0
  go_enter Try.func79, Try.ntmps79
  go_wp2_with fail
  go_quiet (fail)
  go_wp2_with fail
  go_ret2
  exact ⟨rfl, gb_drewN (gb_alloc (gb_refl _ _) _) _⟩

theorem gb_undrew {a b : World} {row : Option Nat} (h : a.drew.grownBy b row) : a.grownBy b row := ⟨h.os, h.tape, h.output, h.size, h.block⟩
end Go.Proofs.Ytecaehkckamhkaa
end

section
namespace Go.Proofs.Ytecaehkckamhkaa
open Go.ChangeShapes Go.WideShapes Go.ChangeAt Go.RowKit
set_option linter.unusedVariables false

theorem implToward (s g lo hi : Int) (w : World) :
    Calls Try.prog 131 #[.int .i64 s, .int .i64 g, .int .i64 lo, .int .i64 hi] w (RetI (towardG s g lo hi) none w) := by
  by_cases h1 : g < s
  · go_enter Try.func131, Try.ntmps131
    go_wp2_with fail
    go_ret
    exact ⟨ret_int64 (by simp [towardG, h1]), gb_refl _ _⟩
  · by_cases h2 : g > s
    all_goals
      go_enter Try.func131, Try.ntmps131
      go_wp2_with fail
      go_ret
      exact ⟨ret_int64 (by unfold towardG; first | rw [if_neg (Int.not_lt.2 h1), if_pos h2] | rw [if_neg (Int.not_lt.2 h1), if_neg (Int.not_lt.2 h2)]), gb_refl _ _⟩
theorem implTowardV (s g lo hi r : Int) (h : towardG s g lo hi = r) (w : World) :
    Calls Try.prog 131 #[.int .i64 s, .int .i64 g, .int .i64 lo, .int .i64 hi] w (RetI r none w) := h ▸ implToward s g lo hi w

theorem implInRow (W H a b r : Int) (ha : hasG W H a = true) (hb : hasG W H b = true) (hr : rowTo W a b = r) (w : World) :
    Calls Try.prog 125 #[.agg #[.int .i64 W, .int .i64 H], .int .i64 a, .int .i64 b] w (RetI r none w) := by
  obtain ⟨x, hx⟩ : ∃ x, a % W = x := ⟨_, rfl⟩
  obtain ⟨u, hu⟩ : ∃ u, b % W = u := ⟨_, rfl⟩
  obtain ⟨y, hy⟩ : ∃ y, a / W = y := ⟨_, rfl⟩
  obtain ⟨v, hv⟩ : ∃ v, b / W = v := ⟨_, rfl⟩
  have HA := Lib.hid (fun w => implPlace W H a x y ha hx hy w)
  have HB := Lib.hid (fun w => implPlace W H b u v hb hu hv w)
  have HT := Lib.hid (fun w => implTowardV x u 3 1 r (by rw [← hr, rowTo, hx, hu]) w)
  clear ha hb hr hx hu hy hv
  go_enter Try.func125, Try.ntmps125
  go_wp2_with fail
  refine (HA.out _).mono ?_
  rintro e w1 ⟨rfl, g1⟩
  have hb1 := boxi_blk g1
  have a0 : w1.cell? ⟨w.heap.size, 0, none⟩ = some (.int .i64 W) := hb1.cell 0
  have a1 : w1.cell? ⟨w.heap.size, 1, none⟩ = some (.int .i64 H) := hb1.cell 1
  have HG1 := Lib.hid g1
  clear g1 hb1
  go_wp2_with fail
  refine (HB.out _).mono ?_
  rintro e w2 ⟨rfl, g2⟩
  have HG2 := Lib.hid (gb_trans HG1.out g2)
  clear g2
  go_wp2_with fail
  refine (HT.out _).mono ?_
  rintro e w3 ⟨rfl, g3⟩
  have HG3 := Lib.hid (gb_trans HG2.out g3)
  clear g3
  go_wp2_with fail
  go_ret
  exact ⟨rfl, boxi_gb HG3.out⟩
theorem implInColumn (W H a b r : Int) (ha : hasG W H a = true) (hb : hasG W H b = true) (hr : colTo W a b = r) (w : World) :
    Calls Try.prog 126 #[.agg #[.int .i64 W, .int .i64 H], .int .i64 a, .int .i64 b] w (RetI r none w) := by
  obtain ⟨x, hx⟩ : ∃ x, a % W = x := ⟨_, rfl⟩
  obtain ⟨u, hu⟩ : ∃ u, b % W = u := ⟨_, rfl⟩
  obtain ⟨y, hy⟩ : ∃ y, a / W = y := ⟨_, rfl⟩
  obtain ⟨v, hv⟩ : ∃ v, b / W = v := ⟨_, rfl⟩
  have HA := Lib.hid (fun w => implPlace W H a x y ha hx hy w)
  have HB := Lib.hid (fun w => implPlace W H b u v hb hu hv w)
  have HT := Lib.hid (fun w => implTowardV y v 0 2 r (by rw [← hr, colTo, hy, hv]) w)
  clear ha hb hr hx hu hy hv
  go_enter Try.func126, Try.ntmps126
  go_wp2_with fail
  refine (HA.out _).mono ?_
  rintro e w1 ⟨rfl, g1⟩
  have hb1 := boxi_blk g1
  have a0 : w1.cell? ⟨w.heap.size, 0, none⟩ = some (.int .i64 W) := hb1.cell 0
  have a1 : w1.cell? ⟨w.heap.size, 1, none⟩ = some (.int .i64 H) := hb1.cell 1
  have HG1 := Lib.hid g1
  clear g1 hb1
  go_wp2_with fail
  refine (HB.out _).mono ?_
  rintro e w2 ⟨rfl, g2⟩
  have HG2 := Lib.hid (gb_trans HG1.out g2)
  clear g2
  go_wp2_with fail
  refine (HT.out _).mono ?_
  rintro e w3 ⟨rfl, g3⟩
  have HG3 := Lib.hid (gb_trans HG2.out g3)
  clear g3
  go_wp2_with fail
  go_ret
  exact ⟨rfl, boxi_gb HG3.out⟩

theorem implXY (W H a b r : Int) (ha : hasG W H a = true) (hb : hasG W H b = true) (hr : xyG W a b = r) (w : World) :
    Calls Try.prog 115 #[.agg #[.int .i64 W, .int .i64 H], .int .i64 a, .int .i64 b] w (RetI r none w) := by
  obtain ⟨p, hp⟩ : ∃ p, rowTo W a b = p := ⟨_, rfl⟩
  obtain ⟨q, hq⟩ : ∃ q, colTo W a b = q := ⟨_, rfl⟩
  unfold xyG at hr
  rw [hp, hq] at hr
  have HA := Lib.hid (fun w => implInRow W H a b p ha hb hp w)
  have HB := Lib.hid (fun w => implInColumn W H a b q ha hb hq w)
  clear ha hb hp hq
  by_cases h4 : p = 4
  · rw [if_pos h4] at hr
    have h5 : (p != 4) = false := by simpa using h4
    subst hr
    clear h4
    go_enter Try.func115, Try.ntmps115
    go_wp2_with fail
    refine (HA.out _).mono ?_
    rintro e w1 ⟨rfl, g1⟩
    have hb1 := boxi_blk g1
    have a0 : w1.cell? ⟨w.heap.size, 0, none⟩ = some (.int .i64 W) := hb1.cell 0
    have a1 : w1.cell? ⟨w.heap.size, 1, none⟩ = some (.int .i64 H) := hb1.cell 1
    have HG1 := Lib.hid g1
    clear g1 hb1
    go_wp2_with fail
    refine (HB.out _).mono ?_
    rintro e w2 ⟨rfl, g2⟩
    have HG2 := Lib.hid (gb_trans HG1.out g2)
    clear g2
    go_wp2_with fail
    go_ret
    exact ⟨rfl, boxi_gb HG2.out⟩
  · rw [if_neg h4] at hr
    have h5 : (p != 4) = true := by simpa using h4
    subst hr
    clear h4
    go_enter Try.func115, Try.ntmps115
    go_wp2_with fail
    refine (HA.out _).mono ?_
    rintro e w1 ⟨rfl, g1⟩
    have HG1 := Lib.hid g1
    clear g1
    go_wp2_with fail
    go_ret
    exact ⟨rfl, boxi_gb HG1.out⟩
theorem implYX (W H a b r : Int) (ha : hasG W H a = true) (hb : hasG W H b = true) (hr : yxG W a b = r) (w : World) :
    Calls Try.prog 116 #[.agg #[.int .i64 W, .int .i64 H], .int .i64 a, .int .i64 b] w (RetI r none w) := by
  obtain ⟨p, hp⟩ : ∃ p, colTo W a b = p := ⟨_, rfl⟩
  obtain ⟨q, hq⟩ : ∃ q, rowTo W a b = q := ⟨_, rfl⟩
  unfold yxG at hr
  rw [hp, hq] at hr
  have HA := Lib.hid (fun w => implInColumn W H a b p ha hb hp w)
  have HB := Lib.hid (fun w => implInRow W H a b q ha hb hq w)
  clear ha hb hp hq
  by_cases h4 : p = 4
  · rw [if_pos h4] at hr
    have h5 : (p != 4) = false := by simpa using h4
    subst hr
    clear h4
    go_enter Try.func116, Try.ntmps116
    go_wp2_with fail
    refine (HA.out _).mono ?_
    rintro e w1 ⟨rfl, g1⟩
    have hb1 := boxi_blk g1
    have a0 : w1.cell? ⟨w.heap.size, 0, none⟩ = some (.int .i64 W) := hb1.cell 0
    have a1 : w1.cell? ⟨w.heap.size, 1, none⟩ = some (.int .i64 H) := hb1.cell 1
    have HG1 := Lib.hid g1
    clear g1 hb1
    go_wp2_with fail
    refine (HB.out _).mono ?_
    rintro e w2 ⟨rfl, g2⟩
    have HG2 := Lib.hid (gb_trans HG1.out g2)
    clear g2
    go_wp2_with fail
    go_ret
    exact ⟨rfl, boxi_gb HG2.out⟩
  · rw [if_neg h4] at hr
    have h5 : (p != 4) = true := by simpa using h4
    subst hr
    clear h4
    go_enter Try.func116, Try.ntmps116
    go_wp2_with fail
    refine (HA.out _).mono ?_
    rintro e w1 ⟨rfl, g1⟩
    have HG1 := Lib.hid g1
    clear g1
    go_wp2_with fail
    go_ret
    exact ⟨rfl, boxi_gb HG1.out⟩
theorem implWest (W H a b r : Int) (ha : hasG W H a = true) (hb : hasG W H b = true) (hr : westG W a b = r) (w : World) :
    Calls Try.prog 117 #[.agg #[.int .i64 W, .int .i64 H], .int .i64 a, .int .i64 b] w (RetI r none w) := by
  obtain ⟨p, hp⟩ : ∃ p, rowTo W a b = p := ⟨_, rfl⟩
  obtain ⟨q, hq⟩ : ∃ q, yxG W a b = q := ⟨_, rfl⟩
  unfold westG at hr
  rw [hp, hq] at hr
  have HA := Lib.hid (fun w => implInRow W H a b p ha hb hp w)
  have HB := Lib.hid (fun w => implYX W H a b q ha hb hq w)
  clear ha hb hp hq
  by_cases h4 : p = 3
  · rw [if_pos h4] at hr
    have h5 : (p == 3) = true := by simpa using h4
    subst hr
    clear h4
    go_enter Try.func117, Try.ntmps117
    go_wp2_with fail
    refine (HA.out _).mono ?_
    rintro e w1 ⟨rfl, g1⟩
    have HG1 := Lib.hid g1
    clear g1
    go_wp2_with fail
    go_ret
    exact ⟨rfl, boxi_gb HG1.out⟩
  · rw [if_neg h4] at hr
    have h5 : (p == 3) = false := by simpa using h4
    subst hr
    clear h4
    go_enter Try.func117, Try.ntmps117
    go_wp2_with fail
    refine (HA.out _).mono ?_
    rintro e w1 ⟨rfl, g1⟩
    have hb1 := boxi_blk g1
    have a0 : w1.cell? ⟨w.heap.size, 0, none⟩ = some (.int .i64 W) := hb1.cell 0
    have a1 : w1.cell? ⟨w.heap.size, 1, none⟩ = some (.int .i64 H) := hb1.cell 1
    have HG1 := Lib.hid g1
    clear g1 hb1
    go_wp2_with fail
    refine (HB.out _).mono ?_
    rintro e w2 ⟨rfl, g2⟩
    have HG2 := Lib.hid (gb_trans HG1.out g2)
    clear g2
    go_wp2_with fail
    go_ret
    exact ⟨rfl, boxi_gb HG2.out⟩
theorem implMixed (W H a b r : Int) (ha : hasG W H a = true) (hb : hasG W H b = true) (hr : mixG W a b = r) (w : World) :
    Calls Try.prog 118 #[.agg #[.int .i64 W, .int .i64 H], .int .i64 a, .int .i64 b] w (RetI r none w) := by
  obtain ⟨p, hp⟩ : ∃ p, xyG W a b = p := ⟨_, rfl⟩
  obtain ⟨q, hq⟩ : ∃ q, yxG W a b = q := ⟨_, rfl⟩
  unfold mixG at hr
  rw [hp, hq] at hr
  have HA := Lib.hid (fun w => implXY W H a b p ha hb hp w)
  have HB := Lib.hid (fun w => implYX W H a b q ha hb hq w)
  obtain ⟨b0, b1⟩ := hasG_le hb
  have hm : b.tmod 2 = b % 2 := by rw [Int.tmod_eq_emod_of_nonneg b0]
  clear ha hb hp hq
  rcases (show b % 2 = 0 ∨ b % 2 = 1 by omega) with h4 | h4
  · rw [if_pos h4] at hr
    rw [h4] at hm
    subst hr
    clear h4
    go_enter Try.func118, Try.ntmps118
    go_wp2_with fail
    refine (HA.out _).mono ?_
    rintro e w1 ⟨rfl, g1⟩
    have HG1 := Lib.hid g1
    clear g1
    go_wp2_with fail
    go_ret
    exact ⟨rfl, boxi_gb HG1.out⟩
  · rw [if_neg (by omega)] at hr
    rw [h4] at hm
    subst hr
    clear h4
    go_enter Try.func118, Try.ntmps118
    go_wp2_with fail
    refine (HB.out _).mono ?_
    rintro e w1 ⟨rfl, g1⟩
    have HG1 := Lib.hid g1
    clear g1
    go_wp2_with fail
    go_ret
    exact ⟨rfl, boxi_gb HG1.out⟩
end Go.Proofs.Ytecaehkckamhkaa
end

section
namespace Go.Proofs.Ytecaehkckamhkaa
open Go.ChangeShapes Go.WideShapes Go.ChangeAt Go.RowKit
set_option linter.unusedVariables false

theorem gb_row {w : World} {g : Nat} {old cs : Array Value} {t : TypeId} (h : Blk w g t old) : Blk (w.setRow g cs) g t cs ∧ w.grownBy (w.setRow g cs) (some g) := by
  refine ⟨setRow_heap w g old cs t (0, 0) h, rfl, rfl, rfl, ?_, fun i hi hne => ?_⟩
  · simp [World.setRow]
  · have hne' : g ≠ i := fun e => hne (by rw [e])
    simp [World.setRow, Array.getElem?_modify, hne']
theorem gb_fresh {a b c : World} {g : Nat} (h : a.grownBy b none) (k : b.grownBy c (some g)) (hg : a.heap.size ≤ g) : a.grownBy c none :=
  ⟨k.os.trans h.os, k.tape.trans h.tape, k.output.trans h.output, Nat.le_trans h.size k.size, fun i hi hne => (k.block i (Nat.lt_of_lt_of_le hi h.size) (fun e => by cases e; omega)).trans (h.block i hi hne)⟩

/-- A rule as two cells: its name and its function. -/
def ruleName (r : Int) : ByteArray := if r = 1 then ⟨#[120, 121]⟩ else if r = 2 then ⟨#[121, 120]⟩ else if r = 3 then ⟨#[119, 101, 115, 116]⟩ else if r = 4 then ⟨#[109, 105, 120, 101, 100]⟩ else ⟨#[]⟩
def ruleFn (r : Int) : Value := if r = 1 then .func (.func 115) #[] #[] else if r = 2 then .func (.func 116) #[] #[] else if r = 3 then .func (.func 117) #[] #[] else if r = 4 then .func (.func 118) #[] #[] else .nilFunc
def ruleC (r : Int) : Array Value := #[.string (ruleName r), ruleFn r]
def rulesC : Array Value := #[.string (ruleName 0), ruleFn 0, .string (ruleName 1), ruleFn 1, .string (ruleName 2), ruleFn 2, .string (ruleName 3), ruleFn 3, .string (ruleName 4), ruleFn 4]
theorem rules_info : (Try.prog.info? 125).map (·.size) = some 10 := by kernel_rfl
theorem rule_info : (Try.prog.info? 93).map (·.size) = some 2 := by kernel_rfl

theorem rules_one : rulesC.all (·.oneCell') = true := by simp [rulesC, ruleFn, Value.oneCell']
theorem rule_one (r : Int) : (ruleC r).all (·.oneCell') = true := by
  simp only [ruleC, ruleFn]
  repeat' split
  all_goals simp [Value.oneCell']

theorem implRules (w : World) :
    Calls Try.prog 105 #[] w fun e w' => e = .returned (.agg rulesC) ∧ w.grownBy w' none := by
  go_enter Try.func105, Try.ntmps105
  go_wp2_with (refine wpList_store_row (P := Try.prog) rfl 125 (.tmp 0) (.tmp 5) rfl w.heap.size rulesC rfl rfl 125 _ (Blk.new _ _ _) rules_info rfl rules_one ?_)
  obtain ⟨b1, g1⟩ := gb_row (cs := rulesC) (Blk.new w 125 (#[.string ⟨#[]⟩, .nilFunc, .string ⟨#[]⟩, .nilFunc, .string ⟨#[]⟩, .nilFunc, .string ⟨#[]⟩, .nilFunc, .string ⟨#[]⟩, .nilFunc]))
  exact bodyPost_ret (v := .agg rulesC) (results_cell_row Try.results105 _ _ w.heap.size _ rulesC (0, 0) _ rfl b1 Try.underlying125 rfl rules_info) rfl ⟨rfl, gb_fresh (gb_alloc (gb_refl _ _) _) g1 (Nat.le_refl _)⟩

theorem index_rules (r : Int) (h1 : 1 ≤ r) (h4 : r ≤ 4) (w : World) :
    (Instr.index 125 (.agg rulesC) (.int .i64 r)).run Try.prog w = .ok (.agg (ruleC r)) w := by
  have hr : r = 1 ∨ r = 2 ∨ r = 3 ∨ r = 4 := by omega
  rcases hr with rfl | rfl | rfl | rfl
  all_goals simp [Instr.index, run_underlying Try.underlying125, asIntOf, part, go_sem, rulesC, ruleC]
theorem wpList_indexRule {ops : Array Oper} {rest : List Oper} {op : Oper} {a : Act} {w : World} {Q : Exit → Act → World → Prop} (hgd : op.guard = none) (x y : Operand) (ho : op.op = .index 125 x y)
    (r : Int) (hx : a.eval x = .agg rulesC) (hy : a.eval y = .int .i64 r) (h1 : 1 ≤ r) (h4 : r ≤ 4)
    (h : wpList Try.prog ops Q rest (a.put op.dst (.agg (ruleC r))) w) : wpList Try.prog ops Q (op :: rest) a w :=
  wpList_plain hgd fun _ hK => by
    unfold Oper.wp execOp
    simp only [ho, hx, hy, index_rules r h1 h4, Sem.run_bind, Result.andThen_ok]
    exact hK _ _ h
theorem ruleC_out {r : Int} (h : r < 1 ∨ 4 < r) : ruleC r = #[.string ⟨#[]⟩, .nilFunc] := by
  have a1 : r ≠ 1 := by omega
  have a2 : r ≠ 2 := by omega
  have a3 : r ≠ 3 := by omega
  have a4 : r ≠ 4 := by omega
  simp [ruleC, ruleName, ruleFn, a1, a2, a3, a4]
theorem ret_rule {tmps : Array Value} {w : World} {g : Nat} {cs : Array Value} {b : Bool} (hb : Blk w g 93 cs) (hs : (Try.prog.info? 93).map (·.size) = some cs.size)
    (hp : tmps.getD 2 undef = .pointer (some ⟨g, 0, none⟩)) (hq : tmps.getD 3 undef = .bool b) : (results Try.f75 tmps).run Try.prog w = .ok (.tuple #[.agg cs, .bool b]) w := by
  rw [results_cell_tmp Try.results75, hp, hq]
  simp only [asAddr, Sem.run_pure, Result.andThen_ok, run_loadVar_row w g _ _ cs (0, 0) _ hb Try.underlying93 rfl hs]
/-- The rule that was found, and whether there is one. -/
theorem implFindRule (r : Int) (b : Bool) (hb : decide (1 ≤ r ∧ r ≤ 4) = b) (w : World) :
    Calls Try.prog 75 #[.int .i64 r] w fun e w' => e = .returned (.tuple #[.agg (ruleC r), .bool b]) ∧ w.grownBy w' none := by
  have HZ := Lib.hid (Blk.new w 93 #[.string ⟨#[]⟩, .nilFunc])
  by_cases h1 : r < 1
  · have HC := Lib.hid (ruleC_out (.inl h1))
    obtain rfl : false = b := by rw [← hb]; simp; omega
    clear hb
    go_enter Try.func75, Try.ntmps75
    go_wp2_with (refine wpList_store_row (P := Try.prog) rfl 93 (.tmp 2) (.tmp 10) rfl w.heap.size #[.string ⟨#[]⟩, .nilFunc] rfl rfl 93 _ HZ.out rule_info rfl (by simp [Value.oneCell']) ?_)
    obtain ⟨b1, g1⟩ := gb_row (cs := #[.string ⟨#[]⟩, .nilFunc]) HZ.out
    rw [HC.out]
    exact bodyPost_ret (v := .tuple #[.agg #[.string ⟨#[]⟩, .nilFunc], .bool false]) (ret_rule b1 rule_info rfl rfl) rfl ⟨rfl, gb_fresh (gb_alloc (gb_refl _ _) _) g1 (Nat.le_refl _)⟩
  · by_cases h4 : r > 4
    · have HC := Lib.hid (ruleC_out (.inr h4))
      obtain rfl : false = b := by rw [← hb]; simp; omega
      clear hb
      go_enter Try.func75, Try.ntmps75
      go_wp2_with (refine wpList_store_row (P := Try.prog) rfl 93 (.tmp 2) (.tmp 10) rfl w.heap.size #[.string ⟨#[]⟩, .nilFunc] rfl rfl 93 _ HZ.out rule_info rfl (by simp [Value.oneCell']) ?_)
      obtain ⟨b1, g1⟩ := gb_row (cs := #[.string ⟨#[]⟩, .nilFunc]) HZ.out
      rw [HC.out]
      exact bodyPost_ret (v := .tuple #[.agg #[.string ⟨#[]⟩, .nilFunc], .bool false]) (ret_rule b1 rule_info rfl rfl) rfl ⟨rfl, gb_fresh (gb_alloc (gb_refl _ _) _) g1 (Nat.le_refl _)⟩
    · have h1' : 1 ≤ r := by omega
      have h4' : r ≤ 4 := by omega
      obtain rfl : true = b := by rw [← hb]; simp; omega
      clear hb
      go_enter Try.func75, Try.ntmps75
      go_wp2_with fail
      refine (implRules _).mono ?_
      rintro e w1 ⟨rfl, g1⟩
      have HB1 := Lib.hid (boxi_blk g1)
      have HG1 := Lib.hid (boxi_gb g1)
      clear g1
      go_wp2_with (first | (refine wpList_indexRule rfl (.tmp 11) (.tmp 12) rfl r rfl rfl h1' h4' ?_) | (refine wpList_store_row (P := Try.prog) rfl 93 (.tmp 2) (.tmp 13) rfl w.heap.size (ruleC r) rfl rfl 93 _ HB1.out rule_info rfl (rule_one r) ?_))
      obtain ⟨b2, g2⟩ := gb_row (cs := ruleC r) HB1.out
      exact bodyPost_ret (v := .tuple #[.agg (ruleC r), .bool true]) (ret_rule b2 rule_info rfl rfl) rfl ⟨rfl, gb_fresh HG1.out g2 (Nat.le_refl _)⟩
end Go.Proofs.Ytecaehkckamhkaa
end

section
namespace Go.Proofs.Ytecaehkckamhkaa
open Go.ChangeShapes Go.WideShapes Go.ChangeAt Go.RowKit
set_option linter.unusedVariables false

def intsV (l : List Int) : List Value := l.map fun x => Value.int .i64 x
theorem intsV_append (a b : List Int) : intsV (a ++ b) = intsV a ++ intsV b := by simp [intsV]
theorem intsV_length (a : List Int) : (intsV a).length = a.length := by simp [intsV]
theorem info_int : (Try.prog.info? 3).map (fun i => (i.zero, i.size, i.bytes)) = some (some (.int .i64 0), 1, 8) := by kernel_rfl
theorem ints_cell {w : World} {base n g cap : Nat} {l : List Int} (h : w.ownsRow base 3 1 (.slice (some ⟨g, 0, none⟩) n cap) n (intsV l)) (k : Nat) (x : Int) (hk : l[k]? = some x) (hl : l.length = n) :
    w.cell? ⟨g, k, none⟩ = some (.int .i64 x) := by
  have hlt : k < n := by
    rcases Nat.lt_or_ge k n with h1 | h1
    · exact h1
    · rw [List.getElem?_eq_none (by omega)] at hk; cases hk
  rw [h.cellAt k (by omega)]
  simp [intsV, hk]
end Go.Proofs.Ytecaehkckamhkaa
end

section
namespace Go.Proofs.Ytecaehkckamhkaa
open Go.ChangeShapes Go.WideShapes Go.ChangeAt Go.RowKit
set_option linter.unusedVariables false

def portAll (W H r a b : Int) : Int := if (hasG W H a && hasG W H b && decide (1 ≤ r ∧ r ≤ 4)) = true then stdPort W r a b else -1
def stdOk (W H r : Int) : Bool := okG W H && decide (1 ≤ r ∧ r ≤ 4)
def stdRes (W H r : Int) : List Int := if stdOk W H r = true then stdTab W H r else []
/-- A new table and whether there is one. -/
def RetTab (P : List Int) (b : Bool) (w : World) (e : Ending) (w' : World) : Prop :=
  ∃ v, e = .returned (.tuple #[.agg #[v], .bool b]) ∧ w'.ownsRow w.heap.size 3 1 v P.length (intsV P) ∧ Below w.heap.size w w'
theorem stdRes_length (W H r : Int) : (stdRes W H r).length ≤ 256 := by
  unfold stdRes
  split
  · rw [stdTab, stdTo_len]; exact sq_le W H
  · simp
end Go.Proofs.Ytecaehkckamhkaa
end

section
namespace Go.Proofs.Ytecaehkckamhkaa
open Go.ChangeShapes Go.WideShapes Go.ChangeAt Go.RowKit
set_option linter.unusedVariables false

theorem wpList_storeRule {ops : Array Oper} {rest : List Oper} {op : Oper} {a : Act} {w : World} {Q : Exit → Act → World → Prop} (hgd : op.guard = none) (x y : Operand) (ho : op.op = .store 93 x y)
    (g : Nat) (old : Array Value) (s : ByteArray) (F : Value) (hF : (#[.string s, F] : Array Value).all (·.oneCell') = true) (hx : a.eval x = .pointer (some ⟨g, 0, none⟩)) (hy : a.eval y = .agg #[.string s, F]) (hb : Blk w g 93 old) (hl : old.size = 2)
    (h : ∀ w', Blk w' g 93 #[.string s, F] → w.grownBy w' (some g) → wpList Try.prog ops Q rest (a.put op.dst undef) w') : wpList Try.prog ops Q (op :: rest) a w :=
  wpList_store_row (P := Try.prog) hgd _ x y ho g #[.string s, F] hx hy _ old hb rule_info hl hF (h _ (gb_row hb).1 (gb_row hb).2)

theorem implHasNodeV (W H n : Int) (b : Bool) (h : hasG W H n = b) (w : World) :
    Calls Try.prog 71 #[.agg #[.int .i64 W, .int .i64 H], .int .i64 n] w (RetB b w) := h ▸ implHasNode W H n w
end Go.Proofs.Ytecaehkckamhkaa
end

section
namespace Go.Proofs.Ytecaehkckamhkaa
open Go.ChangeShapes Go.WideShapes Go.ChangeAt Go.RowKit
set_option linter.unusedVariables false

/-- The slice's n elements are the numbers of L, in a block below B. -/
def IntAt (w : World) (B : Nat) (A : Option Addr) (n : Nat) (L : List Int) : Prop :=
  L.length = n ∧ (0 < n → ∃ b off, A = some ⟨b, off, none⟩ ∧ b < B ∧ ∀ (k : Nat) (x : Int), L[k]? = some x → w.cell? ⟨b, off + k, none⟩ = some (.int .i64 x))
section
variable {w w' : World} {B B' n : Nat} {A : Option Addr} {L : List Int}
theorem IntAt.keep (h : IntAt w B A n L) (hk : ∀ p : Addr, p.block < B → w'.cell? p = w.cell? p) : IntAt w' B A n L := ⟨h.1, fun hn => by
  obtain ⟨b, off, hA, hb, hc⟩ := h.2 hn
  exact ⟨b, off, hA, hb, fun k x hx => (hk _ hb).trans (hc k x hx)⟩⟩
theorem IntAt.more (h : IntAt w B A n L) (hB : B ≤ B') : IntAt w B' A n L := ⟨h.1, fun hn => by
  obtain ⟨b, off, hA, hb, hc⟩ := h.2 hn
  exact ⟨b, off, hA, by omega, hc⟩⟩
theorem IntAt.grown {row : Option Nat} (h : IntAt w B A n L) (hB : B ≤ w.heap.size) (hg : w.grownBy w' row) (hr : ∀ k, row = some k → B ≤ k) : IntAt w' B A n L :=
  h.keep fun p hp => World.cell?_of_block (hg.block p.block (by omega) (fun e => by have := hr _ e.symm; omega))
theorem IntAt.none (h : IntAt w B A n L) (hB : B ≤ w.heap.size) (hg : w.grownBy w' none) : IntAt w' B A n L := h.grown hB hg (fun k e => by cases e)
theorem IntAt.below (h : IntAt w B A n L) (hb : Below B w w') : IntAt w' B A n L := h.keep fun p hp => World.cell?_of_block (hb.block p.block hp)
theorem IntAt.nil (w : World) (B : Nat) (A : Option Addr) : IntAt w B A 0 [] := ⟨rfl, fun h => by omega⟩
/-- One element. -/
theorem IntAt.at (h : IntAt w B A n L) (k : Nat) (hk : k < n) : ∃ b off, A = some ⟨b, off, Option.none⟩ ∧ b < B ∧ w.cell? ⟨b, off + k, Option.none⟩ = some (.int .i64 (L.getD k 0)) := by
  obtain ⟨b, off, hA, hb, hc⟩ := h.2 (by omega)
  have hl := h.1
  exact ⟨b, off, hA, hb, hc k _ (by rw [List.getD_eq_getElem?_getD, List.getElem?_eq_getElem (by omega)]; rfl)⟩
end
theorem alloc_size (w : World) (o : Obj) : (w.alloc o).heap.size = w.heap.size + 1 := by simp
theorem own_less {w : World} {b1 b2 : Nat} {e : TypeId} {size n : Nat} {v : Value} {xs : List Value} (h : w.ownsRow b2 e size v n xs) (hb : b1 ≤ b2) : w.ownsRow b1 e size v n xs :=
  ⟨h.1, h.2.imp id fun ⟨g, cap, cur, e1, e2, rest⟩ => ⟨g, cap, cur, e1, Nat.le_trans hb e2, rest⟩⟩

/-- A row of the call's own, read. -/
theorem intAt_own {w : World} {base n B cap : Nat} {A : Option Addr} {L : List Int} (h : w.ownsRow base 3 1 (.slice A n cap) n (intsV L)) (hl : L.length = n) (hB : w.heap.size ≤ B) : IntAt w B A n L :=
  ⟨hl, fun hn => by
    obtain ⟨A', cap', hv, ha⟩ := own_form h
    obtain ⟨g, hg⟩ := ha hn
    obtain ⟨rfl, rfl⟩ : A = A' ∧ cap = cap' := by injection hv with h1 h2 h3; exact ⟨h1, h3⟩
    subst hg
    exact ⟨g, 0, rfl, by have := (h.lt g rfl).2; omega, fun k x hx => by rw [Nat.zero_add]; exact ints_cell h k x hx hl⟩⟩
theorem own_ints_length {w : World} {base n : Nat} {v : Value} {L : List Int} (h : w.ownsRow base 3 1 v n (intsV L)) : L.length = n := by
  have := h.1
  rw [intsV_length] at this
  omega
theorem intsV_set (l : List Int) (j : Nat) (x : Int) : (intsV l).set j (.int .i64 x) = intsV (l.set j x) := by simp [intsV, List.map_set]
theorem madeInts (n : Nat) : (madeCells (Value.int .i64 0).cells n).toList = intsV (List.replicate n 0) := by
  show (madeCells #[Value.int .i64 0] n).toList = _
  rw [toList_madeCells_one]
  simp [intsV]

/-- The first k numbers of L, then zeros. -/
def copied (L : List Int) (n k : Nat) : List Int := (List.range n).map fun t => if t < k then L.getD t 0 else 0
theorem copied_zero (L : List Int) (n : Nat) : copied L n 0 = List.replicate n 0 := by
  refine List.ext_getElem (by simp [copied]) fun i h1 h2 => ?_
  simp [copied]
theorem copied_succ (L : List Int) (n k : Nat) : (copied L n k).set k (L.getD k 0) = copied L n (k + 1) := by
  refine List.ext_getElem (by simp [copied]) fun i h1 h2 => ?_
  rw [List.getElem_set]
  by_cases e : k = i
  · subst e; simp [copied]
  · simp only [e, if_false, copied, List.getElem_map, List.getElem_range]
    by_cases hi : i < k
    · rw [if_pos hi, if_pos (by omega)]
    · rw [if_neg hi, if_neg (by omega)]
theorem copied_next (L : List Int) (n k : Nat) (x : Int) (h : L.getD k 0 = x) : (copied L n k).set k x = copied L n (k + 1) := by rw [← h]; exact copied_succ L n k
theorem copied_all (L : List Int) (n : Nat) (h : L.length = n) : copied L n n = L := by
  refine List.ext_getElem (by simp [copied, h]) fun i h1 h2 => ?_
  have : i < n := by omega
  simp [copied, this, List.getElem?_eq_getElem h2]
theorem copied_length (L : List Int) (n k : Nat) : (copied L n k).length = n := by simp [copied]

/-- A new row that holds the numbers of L. -/
def NewInts (L : List Int) (w : World) (e : Ending) (w' : World) : Prop :=
  ∃ g, e = .returned (.slice (some ⟨g, 0, none⟩) L.length L.length) ∧ w'.ownsRow w.heap.size 3 1 (.slice (some ⟨g, 0, none⟩) L.length L.length) L.length (intsV L) ∧ Below w.heap.size w w'
def CopyAt (w : World) (n : Nat) (L : List Int) (k : Nat) (v : Value) (wr : World) : Prop := wr.ownsRow w.heap.size 3 1 v n (intsV (copied L n k)) ∧ Below w.heap.size w wr

theorem lawsToIntS (A : Option Addr) (n cap : Nat) (L : List Int) (w : World) (h : IntAt w w.heap.size A n L) (hn : n ≤ 1048576) :
    Calls Try.prog 57 #[.slice A n cap] w (NewInts L w) := by
  obtain ⟨i0, hi, hz0, hz1, hz2⟩ := info_parts info_int
  have hl := h.1
  have HI := Lib.hid h
  clear h
  go_enter Try.func57, Try.ntmps57
  go_wp2_with (at_make; refine wpList_make_full _ rfl _ _ 24 rfl w.heap.size 3 i0 (.int .i64 0) 1 Try.underlying24 hi hz0 hz1 .i64 .i64 _ _ n rfl rfl (by omega) (by omega) (by rw [hz2]; omega) (by unfold maxLen; omega) (Nat.le_refl _) ?_; intro w0 hown0 hgrow0)
  have hz : (madeCells (Value.int .i64 0).cells (n * 1)).toList = intsV (copied L n 0) := by rw [Nat.mul_one, copied_zero]; exact madeInts n
  have X : CopyAt w n L 0 (.slice (some ⟨w.heap.size, 0, none⟩) n n) w0 := ⟨by rw [← hz]; exact hown0, gb_below_none hgrow0 (Nat.le_refl _)⟩
  have HX := Lib.hid X
  clear X hz hown0 hgrow0
  go_loopw [4] (fun i wr => ∃ k : Nat, k ≤ n ∧ i = .int .i64 (k : Int) ∧ CopyAt w n L k (.slice (some ⟨w.heap.size, 0, none⟩) n n) wr) (fun i _ => n - (intOf i).toNat)
  case atStart => exact ⟨0, Nat.zero_le _, rfl, HX.out⟩
  case round =>
    obtain ⟨k, hk, rfl, hown, hbel⟩ := hrel
    have HB := Lib.hid hbel
    by_cases hlt : k < n
    · have hc := hown.cellAt k (by omega)
      obtain ⟨u0, hu0⟩ : ∃ u, (intsV (copied L n k))[k]? = some u := ⟨_, List.getElem?_eq_getElem (by rw [intsV_length, copied_length]; exact hlt)⟩
      rw [hu0] at hc
      obtain ⟨b, off, rfl, hbB, hcell⟩ := (HI.out.below hbel).at k hlt
      obtain ⟨x, hx⟩ : ∃ x, L.getD k 0 = x := ⟨_, rfl⟩
      rw [hx] at hcell
      have hf := hown.frozenAt k
      obtain ⟨hown2, hg2⟩ := hown.stored k (.int .i64 x)
      rw [intsV_set, copied_next L n k x hx] at hown2
      have hne : ¬ w.heap.size = b := by omega
      have HO := Lib.hid hown2
      have HG := Lib.hid hg2
      clear hown hown2 hg2 hbel hu0 hx
      go_wp2_with fail
      go_roundw
      case rel => exact ⟨k + 1, by omega, by go_num, HO.out, HB.out.grown HG.out HB.out.size (fun j e => by cases e; exact Nat.le_refl _)⟩
      case measure => simp [intOf]; omega
    · obtain rfl : k = n := by omega
      have HO := Lib.hid hown
      clear hown hbel
      go_wp2_with fail
      go_ret
      refine ⟨w.heap.size, by rw [hl]; rfl, ?_, HB.out⟩
      have h3 := HO.out
      rw [copied_all L k hl] at h3
      rw [hl]
      exact h3

/-- eqIntS of two rows that hold the same numbers. -/
theorem lawsEqI (A1 A2 : Option Addr) (n c1 c2 B1 B2 : Nat) (L : List Int) (w : World) (h1 : IntAt w B1 A1 n L) (h2 : IntAt w B2 A2 n L) (hn : n ≤ 1000000000) :
    Calls Try.prog 51 #[.slice A1 n c1, .slice A2 n c2] w (RetB true w) := by
  have H1 := Lib.hid h1
  have H2 := Lib.hid h2
  clear h1 h2
  go_enter Try.func51, Try.ntmps51
  go_wp2_with fail
  go_loopw [5] (fun i wr => ∃ k m : Nat, i = .int .i64 k ∧ k ≤ n ∧ wr = w.drewN m) (fun i _ => n - (intOf i).toNat)
  case atStart => exact ⟨0, 0, rfl, Nat.zero_le _, rfl⟩
  case round =>
    obtain ⟨k, m, rfl, hk, rfl⟩ := hrel
    by_cases hlt : k < n
    · obtain ⟨g1, o1, rfl, _, e1⟩ := H1.out.at k hlt
      obtain ⟨g2, o2, rfl, _, e2⟩ := H2.out.at k hlt
      go_wp2_with fail
      go_quiet (fail)
      go_wp2_with fail
      go_roundw
      case rel => exact ⟨k + 1, _, by go_num, by omega, rfl⟩
      case measure => simp [intOf]; omega
    · go_wp2_with fail
      go_ret
      exact ⟨rfl, gb_drewN (gb_refl _ _) _⟩

def markI (k0 n j : Nat) (l : List Int) : List Int := (List.range n).map fun t => if t < j then ((k0 + t : Nat) : Int) else l.getD t 0
theorem markI_zero (k0 n : Nat) (l : List Int) (h : l.length = n) : markI k0 n 0 l = l := by
  refine List.ext_getElem (by simp [markI, h]) fun i h1 h2 => ?_
  simp [markI, List.getElem?_eq_getElem h2]
theorem markI_succ (k0 n j : Nat) (l : List Int) : (markI k0 n j l).set j ((k0 + j : Nat) : Int) = markI k0 n (j + 1) l := by
  refine List.ext_getElem (by simp [markI]) fun i h1 h2 => ?_
  rw [List.getElem_set]
  by_cases e : j = i
  · subst e; simp [markI]
  · simp only [e, if_false, markI, List.getElem_map, List.getElem_range]
    by_cases hi : i < j
    · rw [if_pos hi, if_pos (by omega)]
    · rw [if_neg hi, if_neg (by omega)]
theorem markI_length (k0 n j : Nat) (l : List Int) : (markI k0 n j l).length = n := by simp [markI]
def marksI (k0 n : Nat) : List Int := markI k0 n n []
theorem markI_all (k0 n : Nat) (l : List Int) : markI k0 n n l = marksI k0 n := by
  refine List.ext_getElem (by simp [markI, marksI]) fun i h1 h2 => ?_
  have : i < n := by simpa [markI] using h1
  simp [markI, marksI, this]
theorem marksI_get (k0 n j : Nat) (h : j < n) : (marksI k0 n).getD j 0 = ((k0 + j : Nat) : Int) := by
  rw [List.getD_eq_getElem?_getD, List.getElem?_eq_getElem (by simp [marksI, markI]; exact h)]
  simp [marksI, markI, h]
theorem marksI_length (k0 n : Nat) : (marksI k0 n).length = n := markI_length k0 n n []

theorem lawsMarkI (v : Value) (base n k0 : Nat) (l : List Int) (w : World) (h : w.ownsRow base 3 1 v n (intsV l)) (hk : k0 + n ≤ 1000000000) :
    Calls Try.prog 54 #[v, .int .i64 (k0 : Int)] w fun e w' => e = .returned (.int .i64 ((k0 + n : Nat) : Int)) ∧ w'.ownsRow base 3 1 v n (intsV (marksI k0 n)) ∧ w.grownBy w' v.ownBlock := by
  have hxl := own_ints_length h
  obtain ⟨A, cap, rfl, ha⟩ := own_form h
  have h' := h
  rw [← markI_zero k0 n l hxl] at h'
  clear h hxl
  have H0 := Lib.hid h'
  clear h'
  go_enter Try.func54, Try.ntmps54
  go_wp2_with fail
  go_loopw [1, 5] (fun q i wr => ∃ j : Nat, j ≤ n ∧ q = .int .i64 ((k0 + j : Nat) : Int) ∧ i = .int .i64 (j : Int) ∧ wr.ownsRow base 3 1 (.slice A n cap) n (intsV (markI k0 n j l)) ∧ w.grownBy wr (Value.slice A n cap).ownBlock) (fun _ i _ => n - (intOf i).toNat)
  case atStart => exact ⟨0, Nat.zero_le _, rfl, rfl, H0.out, gb_refl _ _⟩
  case round =>
    obtain ⟨j, hj, rfl, rfl, hown, hgr⟩ := hrel
    have HG := Lib.hid hgr
    clear hgr
    by_cases hlt : j < n
    · obtain ⟨g, rfl⟩ := ha (by omega)
      clear ha
      have hc := hown.cellAt j (by omega)
      rw [List.getElem?_eq_getElem (by rw [intsV_length, markI_length]; omega)] at hc
      have hf := hown.frozenAt j
      obtain ⟨hown2, hg2⟩ := hown.stored j (.int .i64 ((k0 + j : Nat) : Int))
      rw [intsV_set, markI_succ] at hown2
      have HOWN := Lib.hid hown2
      have HGG := Lib.hid (gb_trans HG.out hg2)
      clear hown hown2 hg2
      go_wp2_with fail
      go_roundw
      case rel => exact ⟨j + 1, by omega, by go_num, by go_num, HOWN.out, HGG.out⟩
      case measure => simp [intOf]; omega
    · obtain rfl : j = n := by omega
      rw [markI_all] at hown
      have HOWN := Lib.hid hown
      clear hown
      go_wp2_with fail
      go_ret
      exact ⟨rfl, HOWN.out, HG.out⟩

theorem lawsHeldI (A : Option Addr) (n cap B k0 : Nat) (w : World) (h : IntAt w B A n (marksI k0 n)) (hk : k0 + n ≤ 1000000000) :
    Calls Try.prog 55 #[.slice A n cap, .int .i64 (k0 : Int)] w fun e w' => e = .returned (.int .i64 ((k0 + n : Nat) : Int)) ∧ w.grownBy w' none := by
  have H0 := Lib.hid h
  clear h
  go_enter Try.func55, Try.ntmps55
  go_wp2_with fail
  go_loopw [1, 5] (fun q i wr => ∃ j m : Nat, j ≤ n ∧ q = .int .i64 ((k0 + j : Nat) : Int) ∧ i = .int .i64 (j : Int) ∧ wr = w.drewN m) (fun _ i _ => n - (intOf i).toNat)
  case atStart => exact ⟨0, 0, Nat.zero_le _, rfl, rfl, rfl⟩
  case round =>
    obtain ⟨j, m, hj, rfl, rfl, rfl⟩ := hrel
    by_cases hlt : j < n
    · obtain ⟨g, off, rfl, _, hc⟩ := H0.out.at j hlt
      rw [marksI_get k0 n j hlt] at hc
      go_wp2_with fail
      go_roundw
      case rel => exact ⟨j + 1, _, by omega, by go_num, by go_num, rfl⟩
      case measure => simp [intOf]; omega
    · obtain rfl : j = n := by omega
      go_wp2_with fail
      go_ret
      exact ⟨rfl, gb_drewN (gb_refl _ _) _⟩

/-- The same two for rows of the call's own. -/
theorem lawsEqOwn (v1 v2 : Value) (b1 b2 : Nat) (L : List Int) (w : World) (h1 : w.ownsRow b1 3 1 v1 L.length (intsV L)) (h2 : w.ownsRow b2 3 1 v2 L.length (intsV L)) (hn : L.length ≤ 1000000000) :
    Calls Try.prog 51 #[v1, v2] w (RetB true w) := by
  obtain ⟨A1, c1, rfl, _⟩ := own_form h1
  obtain ⟨A2, c2, rfl, _⟩ := own_form h2
  exact lawsEqI A1 A2 L.length c1 c2 _ _ L w (intAt_own h1 rfl (Nat.le_refl _)) (intAt_own h2 rfl (Nat.le_refl _)) hn
theorem lawsHeldOwn (v : Value) (base n k0 : Nat) (w : World) (h : w.ownsRow base 3 1 v n (intsV (marksI k0 n))) (hk : k0 + n ≤ 1000000000) :
    Calls Try.prog 55 #[v, .int .i64 (k0 : Int)] w fun e w' => e = .returned (.int .i64 ((k0 + n : Nat) : Int)) ∧ w.grownBy w' none := by
  obtain ⟨A, c, rfl, _⟩ := own_form h
  exact lawsHeldI A n c _ k0 w (intAt_own h (marksI_length k0 n) (Nat.le_refl _)) hk

theorem lawsSzI (A : Option Addr) (n cap : Nat) (m : Int) (w : World) (hn : n ≤ 9223372036854775807) (hm0 : 0 ≤ m) (hm1 : m ≤ 1048576) :
    Calls Try.prog 58 #[.slice A n cap, .int .i64 m] w fun e w' => e = .returned (.int .i64 (if m < (n : Int) then -1 else m - n)) ∧ w = w' := by
  by_cases hlt : m < (n : Int)
  · go_enter Try.func58, Try.ntmps58
    go_wp2_with fail
    go_ret
    exact ⟨ret_int64 (by (repeat' split) <;> first | rfl | omega), rfl⟩
  · go_enter Try.func58, Try.ntmps58
    go_wp2_with fail
    go_ret
    exact ⟨ret_int64 (by (repeat' split) <;> first | rfl | omega), rfl⟩
end Go.Proofs.Ytecaehkckamhkaa
end

section
namespace Go.Proofs.Ytecaehkckamhkaa
open Go.ChangeShapes Go.WideShapes Go.ChangeAt Go.RowKit
set_option linter.unusedVariables false

/-- A new list of numbers. -/
def NewI (L : List Int) (w : World) (e : Ending) (w' : World) : Prop :=
  ∃ v, e = .returned v ∧ w'.ownsRow w.heap.size 3 1 v L.length (intsV L) ∧ Below w.heap.size w w'
theorem below_box {w wr : World} {o : Obj} (h : Below (w.heap.size + 1) (w.alloc o) wr) : Below w.heap.size w wr := by
  have h0 : Below w.heap.size w (w.alloc o) := (Below.refl _ _).alloc (Nat.le_refl _) o
  exact ⟨h.os.trans h0.os, h.tape.trans h0.tape, h.output.trans h0.output, Nat.le_trans h0.size h.size, fun i hi => (h.block i (by omega)).trans (h0.block i hi)⟩
theorem below_gb {B : Nat} {a b c : World} (h : Below B a b) (hB : B ≤ a.heap.size) (k : b.grownBy c none) : Below B a c :=
  h.grown k (Nat.le_trans hB h.size) (fun j e => by cases e)
end Go.Proofs.Ytecaehkckamhkaa
end

section
namespace Go.Proofs.Ytecaehkckamhkaa
open Go.ChangeShapes Go.WideShapes Go.ChangeAt Go.RowKit
set_option linter.unusedVariables false

/-- A grid as a value. -/
def gridV (W H : Int) : Value := .agg #[.int .i64 W, .int .i64 H]
def gridC (W H : Int) : Array Value := #[.int .i64 W, .int .i64 H]

theorem specIn (x lo hi : Int) (w : World) :
    Calls Try.prog 97 #[.int .i64 x, .int .i64 lo, .int .i64 hi] w fun e w' => e = .returned (.bool (decide (lo ≤ x ∧ x ≤ hi))) ∧ w = w' := by
  by_cases h1 : lo ≤ x
  all_goals
    go_enter Try.func97, Try.ntmps97
    go_wp2
    all_goals go_ret
    all_goals exact ⟨ret_bool (by simp <;> omega), rfl⟩

theorem specInV (x lo hi : Int) (b : Bool) (hb : decide (lo ≤ x ∧ x ≤ hi) = b) (w : World) :
    Calls Try.prog 97 #[.int .i64 x, .int .i64 lo, .int .i64 hi] w fun e w' => e = .returned (.bool b) ∧ w = w' := hb ▸ specIn x lo hi w

theorem specGridOk (W H : Int) (w : World) :
    Calls Try.prog 96 #[.agg #[.int .i64 W, .int .i64 H]] w (RetB (okG W H) w) := by
  by_cases h1 : 1 ≤ W ∧ W ≤ 4
  · by_cases h2 : 1 ≤ H ∧ H ≤ 4
    all_goals
      go_enter Try.func96, Try.ntmps96
      go_wp2_with fail
      refine (specInV W 1 4 true (by simpa using h1) _).mono ?_
      rintro e w1 ⟨rfl, rfl⟩
      go_wp2_with fail
      first
      | refine (specInV H 1 4 true (by simpa using h2) _).mono ?_
      | refine (specInV H 1 4 false (by simpa using h2) _).mono ?_
      rintro e w1 ⟨rfl, rfl⟩
      go_wp2_with fail
      go_ret
      exact ⟨ret_bool (by simp [okG]; omega), gb_alloc (gb_refl _ _) _⟩
  · go_enter Try.func96, Try.ntmps96
    go_wp2_with fail
    refine (specInV W 1 4 false (by simpa using h1) _).mono ?_
    rintro e w1 ⟨rfl, rfl⟩
    go_wp2_with fail
    go_ret
    exact ⟨ret_bool (by simp [okG]; omega), gb_alloc (gb_refl _ _) _⟩

theorem box_blk {w w1 : World} {T : TypeId} {cs : Array Value} (h : (w.alloc (.cells cs T)).grownBy w1 none) : Blk w1 w.heap.size T cs := (Blk.new w T cs).grown h (by simp)
theorem box_gb {w w1 : World} {o : Obj} (h : (w.alloc o).grownBy w1 none) : w.grownBy w1 none := gb_trans (gb_alloc (gb_refl _ _) _) h

theorem specNodeCount (W H : Int) (w : World) :
    Calls Try.prog 60 #[.agg #[.int .i64 W, .int .i64 H]] w (RetI (countG W H) none w) := by
  cases hok : okG W H with
  | true =>
    obtain ⟨hW, hH⟩ := okG_cases hok
    have hm : wrap64 (W * H) = countG W H := by
      simp only [countG, hok, if_true]
      rcases hW with rfl | rfl | rfl | rfl <;> rcases hH with rfl | rfl | rfl | rfl <;> exact IntWalk.wrap64_in _ (by omega)
    have Hm := Lib.hid hm
    clear hW hH hm
    go_enter Try.func60, Try.ntmps60
    go_wp2_with fail
    refine (specGridOk W H _).mono ?_
    rintro e w1 ⟨rfl, hg⟩
    have hb := box_blk hg
    have c0 : w1.cell? ⟨w.heap.size, 0, none⟩ = some (.int .i64 W) := hb.cell 0
    have c1 : w1.cell? ⟨w.heap.size, 1, none⟩ = some (.int .i64 H) := hb.cell 1
    have Hg := Lib.hid hg
    clear hg hb
    rw [hok]
    go_wp2_with fail
    go_ret
    exact ⟨ret_int64 (by rw [← Hm.out]), box_gb Hg.out⟩
  | false =>
    go_enter Try.func60, Try.ntmps60
    go_wp2_with fail
    refine (specGridOk W H _).mono ?_
    rintro e w1 ⟨rfl, hg⟩
    rw [hok]
    go_wp2_with fail
    go_ret
    exact ⟨ret_int64 (by simp [countG, hok]), box_gb hg⟩

theorem specHas (W H n : Int) (w : World) :
    Calls Try.prog 100 #[.agg #[.int .i64 W, .int .i64 H], .int .i64 n] w (RetB (hasG W H n) w) := by
  obtain ⟨k, hk⟩ : ∃ k, countG W H = k := ⟨_, rfl⟩
  have hl := countG_le W H
  rw [hk] at hl
  obtain ⟨hl0, hl1⟩ := hl
  go_enter Try.func100, Try.ntmps100
  go_wp2_with fail
  refine (specNodeCount W H _).mono ?_
  rintro e w1 ⟨rfl, hg⟩
  rw [hk]
  go_wp2_with fail
  refine (specInV n 0 _ (hasG W H n) (by unfold hasG; rw [hk]; exact decide_eq_decide.2 (by omega)) _).mono ?_
  rintro e w2 ⟨rfl, rfl⟩
  go_wp2_with fail
  go_ret
  exact ⟨rfl, box_gb hg⟩
theorem specHasV (W H n : Int) (b : Bool) (h : hasG W H n = b) (w : World) :
    Calls Try.prog 100 #[.agg #[.int .i64 W, .int .i64 H], .int .i64 n] w (RetB b w) := h ▸ specHas W H n w
end Go.Proofs.Ytecaehkckamhkaa
end

section
namespace Go.Proofs.Ytecaehkckamhkaa
open Go.ChangeShapes Go.WideShapes Go.ChangeAt Go.RowKit
set_option linter.unusedVariables false

theorem box2 {w w1 : World} {T U : TypeId} {cs ds : Array Value} (h : ((w.alloc (.cells cs T)).alloc (.cells ds U)).grownBy w1 none) :
    Blk w1 w.heap.size T cs ∧ Blk w1 (w.heap.size + 1) U ds ∧ w.grownBy w1 none := by
  refine ⟨((Blk.new w T cs).alloc _).grown h (by simp), ?_, gb_trans (gb_alloc (gb_alloc (gb_refl _ _) _) _) h⟩
  have := (Blk.new (w.alloc (.cells cs T)) U ds).grown h (by simp)
  rwa [alloc_size] at this
theorem sq_bounds {k : Int} (h0 : 0 ≤ k) (h1 : k ≤ 16) : 0 ≤ k * k ∧ k * k ≤ 256 := by
  have e : k = (k.toNat : Int) := (Int.toNat_of_nonneg h0).symm
  have h2 : k.toNat ≤ 16 := by omega
  have h3 : k.toNat * k.toNat ≤ 16 * 16 := Nat.mul_le_mul h2 h2
  rw [e, ← Int.natCast_mul]
  omega
end Go.Proofs.Ytecaehkckamhkaa
end

section
namespace Go.Proofs.Ytecaehkckamhkaa
open Go.ChangeShapes Go.WideShapes Go.ChangeAt Go.RowKit
set_option linter.unusedVariables false

/-- 256 zeros. -/
def zerosX : List Int := List.replicate 256 0
theorem zerosX_length : zerosX.length = 256 := List.length_replicate
/-- The square after the first i pairs of k nodes were written. -/
def sqTo (k : Nat) (f : Nat → Int) : Nat → List Int
  | 0 => zerosX
  | i + 1 => (sqTo k f i).set (16 * (i / k) + i % k) (f i)
theorem sqTo_length (k : Nat) (f : Nat → Int) (i : Nat) : (sqTo k f i).length = 256 := by
  induction i with
  | zero => exact zerosX_length
  | succ i ih => rw [sqTo, List.length_set]; exact ih
theorem pair_div {a b k : Nat} (hb : b < k) : (a * k + b) / k = a := by
  rw [Nat.add_comm, Nat.add_mul_div_right _ _ (by omega), Nat.div_eq_of_lt hb]; omega
theorem pair_mod {a b k : Nat} (hb : b < k) : (a * k + b) % k = b := by
  rw [Nat.add_comm, Nat.add_mul_mod_self_right]; exact Nat.mod_eq_of_lt hb
theorem sqTo_at {k a b i : Nat} (f : Nat → Int) (hk : k ≤ 16) (ha : a < k) (hb : b < k) (h : a * k + b < i) : (sqTo k f i).getD (16 * a + b) 0 = f (a * k + b) := by
  induction i with
  | zero => omega
  | succ i ih =>
    rw [sqTo, List.getD_eq_getElem?_getD, List.getElem?_set]
    have hm : i % k < k := Nat.mod_lt _ (by omega)
    by_cases e : a * k + b = i
    · have e1 : i / k = a := by rw [← e]; exact pair_div hb
      have e2 : i % k = b := by rw [← e]; exact pair_mod hb
      rw [e1, e2, if_pos rfl, if_pos (by rw [sqTo_length]; omega), e]
      rfl
    · have hne : ¬ 16 * (i / k) + i % k = 16 * a + b := fun he => by
        have e1 : i / k = a := by omega
        have e2 : i % k = b := by omega
        have := Nat.div_add_mod i k
        rw [e1, e2, Nat.mul_comm] at this
        exact e this
      rw [if_neg hne, ← List.getD_eq_getElem?_getD]
      exact ih (by omega)
theorem sqTo_mem {k i : Nat} {f : Nat → Int} {x : Int} (h : x ∈ sqTo k f i) : x = 0 ∨ ∃ j, j < i ∧ x = f j := by
  induction i with
  | zero => exact .inl (List.eq_of_mem_replicate h)
  | succ i ih =>
    rcases List.mem_or_eq_of_mem_set h with h1 | h1
    · rcases ih h1 with h2 | ⟨j, hj, h2⟩
      · exact .inl h2
      · exact .inr ⟨j, by omega, h2⟩
    · exact .inr ⟨i, by omega, h1⟩

/-- The greatest of the first n numbers, at least 0. -/
def topTo (X : List Int) : Nat → Int
  | 0 => 0
  | n + 1 => max (topTo X n) (X.getD n 0)
/-- The greatest of the first i + 1 numbers. -/
def mxTo (R : List Int) : Nat → Int
  | 0 => R.getD 0 0
  | i + 1 => max (mxTo R i) (R.getD (i + 1) 0)
theorem top_row {X R : List Int} {s : Nat} (i : Nat) (h : ∀ j, j ≤ i → R.getD j 0 = X.getD (s + j) 0) : max (topTo X s) (mxTo R i) = topTo X (s + i + 1) := by
  induction i with
  | zero => rw [mxTo, h 0 (Nat.le_refl _)]; rfl
  | succ i ih =>
    rw [mxTo, ← Int.max_assoc, ih (fun j hj => h j (by omega)), h (i + 1) (Nat.le_refl _)]
    rfl
theorem topTo_le {X : List Int} {m : Int} (hm : 0 ≤ m) (h : ∀ x ∈ X, x ≤ m) (n : Nat) : topTo X n ≤ m := by
  induction n with
  | zero => exact hm
  | succ n ih =>
    rw [topTo]
    refine Int.max_le.2 ⟨ih, ?_⟩
    rw [List.getD_eq_getElem?_getD]
    cases hx : X[n]? with
    | none => exact hm
    | some x => exact h x (List.mem_of_getElem? hx)
theorem le_topTo {X : List Int} {i n : Nat} (h : i < n) : X.getD i 0 ≤ topTo X n := by
  induction n with
  | zero => omega
  | succ n ih =>
    rw [topTo]
    rcases Nat.lt_succ_iff_lt_or_eq.1 h with h1 | rfl
    · exact Int.le_trans (ih h1) (Int.le_max_left _ _)
    · exact Int.le_max_right _ _
theorem topTo_nonneg (X : List Int) (n : Nat) : 0 ≤ topTo X n := by
  induction n with
  | zero => exact Int.le_refl _
  | succ n ih => rw [topTo]; exact Int.le_trans ih (Int.le_max_left _ _)
/-- A list that is given at all its indices is between. -/
theorem mxTo_le {R : List Int} {m : Int} (h : ∀ j, R.getD j 0 ≤ m) (i : Nat) : mxTo R i ≤ m := by
  induction i with
  | zero => exact h 0
  | succ i ih => rw [mxTo]; exact Int.max_le.2 ⟨ih, h _⟩

/-- The port of an entry: -1 outside of the range 0 to 4. -/
def portP (p : Int) : Int := if p < 0 ∨ 4 < p then -1 else p
theorem portP_bounds (p : Int) : -1 ≤ portP p ∧ portP p ≤ 4 := by unfold portP; split <;> omega
theorem portP_in {p : Int} (h0 : 0 ≤ p) (h1 : p ≤ 4) : portP p = p := if_neg (by omega)
theorem portP_out {p : Int} (h : p < 0 ∨ 4 < p) : portP p = -1 := if_pos h
theorem portP_four {p : Int} : portP p = 4 ↔ p = 4 := by unfold portP; split <;> omega
theorem portP_in_of {p q : Int} (h : portP p = q) (h0 : 0 ≤ q) : p = q := by unfold portP at h; split at h <;> omega

section
variable {W H : Int} {L P : List Int}
/-- The nodes of a grid. -/
def cntN (W H : Int) : Nat := (countG W H).toNat
theorem cntN_int (W H : Int) : (cntN W H : Int) = countG W H := Int.toNat_of_nonneg (countG_le W H).1
theorem cntN_le (W H : Int) : cntN W H ≤ 16 := by have := countG_le W H; have := cntN_int W H; omega
/-- The table as a square of ports. -/
def portsX (W H : Int) (P : List Int) (i : Nat) : List Int := sqTo (cntN W H) (fun j => portP (P.getD j 0)) i
/-- The lengths of the walks as a square. -/
def lensX (W H : Int) (L P : List Int) (i : Nat) : List Int := sqTo (cntN W H) (fun j => (lenAt W H L P j : Int)) i
/-- The square holds the ports of the table. -/
def isPorts (W H : Int) (P X : List Int) : Prop := X.length = 256 ∧ ∀ a b : Nat, (a : Int) < countG W H → (b : Int) < countG W H → X.getD (16 * a + b) 0 = portP (tabG (countG W H) P a b)
theorem sq_lt {k a b : Nat} (ha : a < k) (hb : b < k) : a * k + b < k * k := by
  have : (a + 1) * k ≤ k * k := Nat.mul_le_mul_right _ (by omega)
  rw [Nat.add_mul, Nat.one_mul] at this
  omega
theorem portsX_is (hs : sizedG W H L P = true) : isPorts W H P (portsX W H P P.length) := by
  refine ⟨sqTo_length _ _ _, fun a b ha hb => ?_⟩
  have hk := cntN_int W H
  have hp := (sizedG_mesh hs).2
  have hpn : P.length = cntN W H * cntN W H := by rw [← hk] at hp; exact_mod_cast hp
  rw [portsX, sqTo_at _ (cntN_le W H) (by omega) (by omega) (by rw [hpn]; exact sq_lt (by omega) (by omega))]
  rw [tabG, ← hk, show ((a : Int) * (cntN W H : Int) + (b : Int)).toNat = a * cntN W H + b by rw [← Int.natCast_mul, ← Int.natCast_add, Int.toNat_natCast]]
theorem lensX_top : topTo (lensX W H L P (sqG W H)) 256 = (mostTo W H L P (sqG W H) : Int) := by
  have hk := cntN_le W H
  refine Int.le_antisymm (topTo_le (by omega) (fun x hx => ?_) _) ?_
  · rcases sqTo_mem hx with rfl | ⟨j, hj, rfl⟩
    · omega
    · exact_mod_cast mostTo_le hj
  · have h : ∀ i, i ≤ sqG W H → (mostTo W H L P i : Int) ≤ topTo (lensX W H L P (sqG W H)) 256 := fun i => by
      induction i with
      | zero => intro _; exact topTo_nonneg _ _
      | succ i ih =>
        intro hi
        rw [mostTo]
        have h1 := ih (by omega)
        have hlt : i < cntN W H * cntN W H := hi
        have hk0 : 0 < cntN W H := Nat.pos_of_ne_zero fun e => by rw [e] at hlt; omega
        have hd : i / cntN W H < cntN W H := Nat.div_lt_of_lt_mul hlt
        have hm : i % cntN W H < cntN W H := Nat.mod_lt _ hk0
        have he : i / cntN W H * cntN W H + i % cntN W H = i := by rw [Nat.mul_comm]; exact Nat.div_add_mod _ _
        have h2 := sqTo_at (fun j => (lenAt W H L P j : Int)) hk hd hm (i := sqG W H) (by omega)
        have h3 := le_topTo (X := lensX W H L P (sqG W H)) (i := 16 * (i / cntN W H) + i % cntN W H) (n := 256) (by omega)
        rw [lensX, h2, he] at h3
        rw [lensX] at h1 ⊢
        omega
    exact h _ (Nat.le_refl _)
/-- The number of a pair. -/
theorem lenAt_pair {a b : Nat} (hb : (b : Int) < countG W H) : lenAt W H L P (a * cntN W H + b) = (walkOf W H L P a b).length := by
  have hk := cntN_int W H
  have e1 : ((a * cntN W H + b : Nat) : Int) / countG W H = a := by
    rw [← hk, ← Int.natCast_ediv, pair_div (by omega)]
  have e2 : ((a * cntN W H + b : Nat) : Int) % countG W H = b := by
    rw [← hk, ← Int.natCast_emod, pair_mod (by omega)]
  rw [lenAt, e1, e2]

/-- The walk ends. -/
def endsG (W H : Int) (L P : List Int) (a b : Int) : Bool := (walkF W H L P b ((countG W H).toNat + 1) a).isSome
theorem walkF_never {to : Int} (h : tabG (countG W H) P to to ≠ 4) : ∀ (f : Nat) (a : Int), walkF W H L P to f a = none
  | 0, _ => rfl
  | f + 1, a => by
    rw [walkF]
    split
    · rename_i h4
      rw [if_neg (fun e => by subst e; exact h h4)]
    · split
      · rw [walkF_never h f]; rfl
      · rfl
theorem ends_entry (a b : Int) : endsG W H L P a b = entryG W H L P a b := by
  by_cases e : a = b
  · subst e
    rw [entry_same, endsG]
    by_cases h4 : tabG (countG W H) P a a = 4
    · rw [walkF_end h4 rfl, h4]; rfl
    · rw [walkF_never h4]; simp [h4]
  · rw [entry_two e, endsG, walkOf]
    by_cases h4 : tabG (countG W H) P a b = 4
    · rw [walkF_lost h4 e]; rfl
    · cases hs : stepsG W H L a (tabG (countG W H) P a b) with
      | false => rw [walkF_bad rfl h4 hs]; rfl
      | true =>
        rw [walkF_go rfl h4 hs]
        cases walkF W H L P b (countG W H).toNat (nextG W H a (tabG (countG W H) P a b)) <;> simp
theorem walkOf_same (a : Int) : walkOf W H L P a a = [] := by
  rw [walkOf]
  by_cases h4 : tabG (countG W H) P a a = 4
  · rw [walkF_end h4 rfl]; rfl
  · rw [walkF_never h4]; rfl
theorem walkG_ask {a b : Int} (h : askG W H L P a b = true) : walkG W H L P a b = walkOf W H L P a b := by
  by_cases e : a = b
  · subst e; rw [walkOf_same, walkG, if_neg (by simp)]
  · rw [walkG, if_pos ⟨h, e⟩]
theorem walkG_no {a b : Int} (h : askG W H L P a b = false) : walkG W H L P a b = [] := by rw [walkG, if_neg (by simp [h])]
theorem portAtG_ask {a b : Int} (h : askG W H L P a b = true) : portAtG W H L P a b = portP (tabG (countG W H) P a b) := by
  unfold portAtG portP
  by_cases h2 : 0 ≤ tabG (countG W H) P a b ∧ tabG (countG W H) P a b ≤ 4
  · rw [if_pos ⟨h, h2⟩, if_neg (by omega)]
  · rw [if_neg (fun e => h2 e.2), if_pos (by omega)]
theorem portAtG_no {a b : Int} (h : askG W H L P a b = false) : portAtG W H L P a b = -1 := by rw [portAtG, if_neg (by simp [h])]
/-- Whether the rest of a walk ends. -/
def restE (W H : Int) (L P : List Int) (to : Int) (f : Nat) (a : Int) : Bool := (walkF W H L P to f a).isSome
theorem restE_start (a b : Int) : restE W H L P b ((countG W H).toNat + 1) a = endsG W H L P a b := rfl
theorem restE_end {to a : Int} {f : Nat} (h : tabG (countG W H) P a to = 4) (he : a = to) : restE W H L P to (f + 1) a = true := by rw [restE, walkF_end h he]; rfl
theorem restE_lost {to a : Int} {f : Nat} (h : tabG (countG W H) P a to = 4) (he : a ≠ to) : restE W H L P to (f + 1) a = false := by rw [restE, walkF_lost h he]; rfl
theorem restE_bad {to a p : Int} {f : Nat} (h : tabG (countG W H) P a to = p) (h4 : p ≠ 4) (hs : stepsG W H L a p = false) : restE W H L P to (f + 1) a = false := by rw [restE, walkF_bad h h4 hs]; rfl
theorem restE_go {to a p : Int} {f : Nat} (h : tabG (countG W H) P a to = p) (h4 : p ≠ 4) (hs : stepsG W H L a p = true) : restE W H L P to (f + 1) a = restE W H L P to f (nextG W H a p) := by
  rw [restE, walkF_go h h4 hs, restE]
  cases walkF W H L P to f (nextG W H a p) <;> rfl
end
end Go.Proofs.Ytecaehkckamhkaa
end

section
namespace Go.Proofs.Ytecaehkckamhkaa
open Go.ChangeShapes Go.WideShapes Go.ChangeAt Go.RowKit
set_option linter.unusedVariables false

/-- The function of a rule that exists can be called and returns the port. -/
theorem ruleFn_calls {r : Int} (h1 : 1 ≤ r) (h4 : r ≤ 4) : ∃ f, ruleFn r = .func (.func f) #[] #[] ∧ (∀ args w, (callFunc f args).run Try.prog w = .ok (.enter f args) w) ∧
    ∀ (W H a b : Int), hasG W H a = true → hasG W H b = true → ∀ w, Calls Try.prog f #[.agg #[.int .i64 W, .int .i64 H], .int .i64 a, .int .i64 b] w (RetI (stdPort W r a b) none w) := by
  have hr : r = 1 ∨ r = 2 ∨ r = 3 ∨ r = 4 := by omega
  rcases hr with rfl | rfl | rfl | rfl
  · exact ⟨_, rfl, Try.call115, fun W H a b ha hb w => implXY W H a b _ ha hb (xy_std ha hb) w⟩
  · exact ⟨_, rfl, Try.call116, fun W H a b ha hb w => implYX W H a b _ ha hb (yx_std ha hb) w⟩
  · exact ⟨_, rfl, Try.call117, fun W H a b ha hb w => implWest W H a b _ ha hb (west_std ha hb) w⟩
  · exact ⟨_, rfl, Try.call118, fun W H a b ha hb w => implMixed W H a b _ ha hb (mix_std ha hb) w⟩

theorem implGridOkV (W H : Int) (b : Bool) (h : okG W H = b) (w : World) :
    Calls Try.prog 73 #[.agg #[.int .i64 W, .int .i64 H]] w (RetB b w) := h ▸ implGridOk W H w
theorem implNodeCountV2 (W H k : Int) (h : countG W H = k) (w : World) :
    Calls Try.prog 66 #[.agg #[.int .i64 W, .int .i64 H]] w (RetI k none w) := h ▸ implNodeCount W H w

/-- The call's own blocks: the grid, the result, the rule; and the ports so far. -/
def StdAt (W H r : Int) (s : ByteArray) (F : Value) (g : Nat) (w : World) (k : Nat) (v : Value) (wr : World) : Prop :=
  Blk wr w.heap.size 32 #[.int .i64 W, .int .i64 H] ∧ Blk wr (w.heap.size + 1) 36 #[.slice none 0 0] ∧ Blk wr g 93 #[.string s, F] ∧
  wr.ownsRow (g + 1) 3 1 v k (intsV (stdTo W H r k)) ∧ Below w.heap.size w wr

theorem StdAt.app {W H r p : Int} {s : ByteArray} {F : Value} {g : Nat} {w wr w5 : World} {k : Nat} {v v' : Value} {o : Obj} (h : StdAt W H r s F g w k v wr) (hgw : w.heap.size + 2 ≤ g)
    (hg : (wr.alloc o).grownBy w5 v.ownBlock) (ho : w5.ownsRow (g + 1) 3 1 v' (k + 1) (intsV (stdTo W H r k) ++ [.int .i64 p])) (hp : stdTo W H r (k + 1) = stdTo W H r k ++ [p]) : StdAt W H r s F g w (k + 1) v' w5 := by
  obtain ⟨h0, h1, h2, hown, hb⟩ := h
  have hne : ∀ j, j < g + 1 → some j ≠ v.ownBlock := fun j hj e => by have := (hown.lt j e.symm).1; omega
  refine ⟨(h0.alloc o).grown hg (hne _ (by omega)), (h1.alloc o).grown hg (hne _ (by omega)), (h2.alloc o).grown hg (hne _ (by omega)), ?_, ?_⟩
  · rw [hp, intsV_append]; exact ho
  · exact (hb.alloc hb.size o).grown hg (by have := hb.size; simp; omega) (fun j hj => by have := (hown.lt j hj).1; omega)
theorem StdAt.none {W H r : Int} {s : ByteArray} {F : Value} {g : Nat} {w wr w5 : World} {k : Nat} {v : Value} (h : StdAt W H r s F g w k v wr) (hg : wr.grownBy w5 none) : StdAt W H r s F g w k v w5 :=
  ⟨h.1.grown hg (by simp), h.2.1.grown hg (by simp), h.2.2.1.grown hg (by simp), own_none h.2.2.2.1 hg, below_gb h.2.2.2.2 (Nat.le_refl _) hg⟩
theorem stdTo_pair {W H r : Int} {x y k : Nat} (hk : (k : Int) = countG W H) (hy : y < k) : stdTo W H r (x * k + y + 1) = stdTo W H r (x * k + y) ++ [stdPort W r (x : Int) (y : Int)] := by
  have e1 : ((x * k + y : Nat) : Int) / (k : Int) = x := by rw [← Int.natCast_ediv, pair_div hy]
  have e2 : ((x * k + y : Nat) : Int) % (k : Int) = y := by rw [← Int.natCast_emod, pair_mod hy]
  rw [stdTo_succ, ← hk, e1, e2]
theorem has_cnt {W H : Int} {x k : Nat} (hk : (k : Int) = countG W H) (hx : x < k) : hasG W H (x : Int) = true := hasG_iff.2 ⟨by omega, by omega⟩

theorem implStdTab (W H r : Int) (w : World) :
    Calls Try.prog 32 #[.agg #[.int .i64 W, .int .i64 H], .int .i64 r] w (RetTab (stdRes W H r) (stdOk W H r) w) := by
  obtain ⟨P, hP⟩ : ∃ P, stdRes W H r = P := ⟨_, rfl⟩
  obtain ⟨b, hb⟩ : ∃ b, stdOk W H r = b := ⟨_, rfl⟩
  rw [hP, hb]
  obtain ⟨s, hs⟩ : ∃ s, ruleName r = s := ⟨_, rfl⟩
  obtain ⟨i0, hi, hz0, hz1, hz2⟩ := info_parts info_int
  have hbk0 := (Blk.new w 32 #[.int .i64 W, .int .i64 H]).alloc (.cells #[.slice none 0 0] 36)
  have hbk1 := Blk.new (w.alloc (.cells #[.int .i64 W, .int .i64 H] 32)) 36 #[.slice none 0 0]
  rw [alloc_size] at hbk1
  have K0 := Lib.hid hbk0
  have K1 := Lib.hid hbk1
  have KG := Lib.hid (gb_alloc (gb_alloc (gb_refl w none) (.cells #[.int .i64 W, .int .i64 H] 32)) (.cells #[.slice none 0 0] 36))
  clear hbk0 hbk1
  cases hr : decide (1 ≤ r ∧ r ≤ 4) with
  | false =>
    have HF := Lib.hid (fun w => implFindRule r false hr w)
    obtain ⟨F, hF⟩ : ∃ F, ruleFn r = F := ⟨_, rfl⟩
    have HR : Hid (ruleC r = #[.string s, F]) := Lib.hid (by rw [ruleC, hF, hs])
    have H1 : Hid ((#[.string s, F] : Array Value).all (·.oneCell') = true) := Lib.hid (by rw [← HR.out]; exact rule_one r)
    have hB : b = false := by rw [← hb, stdOk, hr]; simp
    have hPP : P = [] := by rw [← hP, stdRes, hb, hB]; rfl
    subst hB
    subst hPP
    clear hF hr hs hb hP
    go_enter Try.func32, Try.ntmps32
    go_wp2_with fail
    refine (HF.out _).mono ?_
    rintro e w1 ⟨rfl, g1⟩
    have HB0 := Lib.hid ((K0.out.grown g1 (by simp)).alloc (.cells #[.string ⟨#[]⟩, .nilFunc] 93))
    have HB1 := Lib.hid ((K1.out.grown g1 (by simp)).alloc (.cells #[.string ⟨#[]⟩, .nilFunc] 93))
    have HG1 := Lib.hid (gb_trans KG.out g1)
    have HNE : Hid (w.heap.size + 2 ≤ w1.heap.size) := Lib.hid (by have := g1.size; rw [alloc_size, alloc_size] at this; exact this)
    clear g1
    rw [HR.out]
    have HZ := Lib.hid (Blk.new w1 93 #[.string ⟨#[]⟩, .nilFunc])
    go_wp2_with (refine wpList_storeRule rfl (.tmp 6) (.tmp 15) rfl w1.heap.size _ s F H1.out rfl rfl HZ.out rfl ?_
                 intro w2 hb2 hg2
                 have hb3 := HB0.out.grown hg2 (fun e => by have := Option.some.inj e; have := HNE.out; omega)
                 have hb4 := HB1.out.grown hg2 (fun e => by have := Option.some.inj e; have := HNE.out; omega)
                 have c0 : w2.cell? ⟨w.heap.size, 0, none⟩ = some (.int .i64 W) := hb3.cell 0
                 have c1 : w2.cell? ⟨w.heap.size, 1, none⟩ = some (.int .i64 H) := hb3.cell 1
                 have c2 : w2.cell? ⟨w.heap.size + 1, 0, none⟩ = some (.slice none 0 0) := hb4.cell 0
                 have c3 := hb4.frozen 0
                 have HB4 := Lib.hid hb4
                 have HG2 := Lib.hid (gb_fresh (gb_alloc HG1.out _) hg2 HG1.out.size)
                 clear hg2 hb2 hb3 hb4)
    have h1 := (HB4.out.set_ 0 (.slice none 0 0)).cell 0
    simp at h1
    refine bodyPost_ret (v := .tuple #[.agg #[.slice none 0 0], .bool false]) (by simp [results, Try.results32, go_sem, h1]) rfl ⟨_, rfl, World.ownsRow_nil _ _ _ _, ?_⟩
    exact gb_below_none (gb_setCell HG2.out (.inr (by show w.heap.size ≤ w.heap.size + 1; omega)) _) (Nat.le_refl _)
  | true =>
    have HF := Lib.hid (fun w => implFindRule r true hr w)
    cases ho : okG W H with
    | false =>
      obtain ⟨F, hF⟩ : ∃ F, ruleFn r = F := ⟨_, rfl⟩
      have HR : Hid (ruleC r = #[.string s, F]) := Lib.hid (by rw [ruleC, hF, hs])
      have H1 : Hid ((#[.string s, F] : Array Value).all (·.oneCell') = true) := Lib.hid (by rw [← HR.out]; exact rule_one r)
      have hB : b = false := by rw [← hb, stdOk, ho, hr]; simp
      have hPP : P = [] := by rw [← hP, stdRes, hb, hB]; rfl
      subst hB
      subst hPP
      have HO := Lib.hid (fun w => implGridOkV W H false ho w)
      clear hF hr hs hb hP ho
      go_enter Try.func32, Try.ntmps32
      go_wp2_with fail
      refine (HF.out _).mono ?_
      rintro e w1 ⟨rfl, g1⟩
      have HB0 := Lib.hid ((K0.out.grown g1 (by simp)).alloc (.cells #[.string ⟨#[]⟩, .nilFunc] 93))
      have HB1 := Lib.hid ((K1.out.grown g1 (by simp)).alloc (.cells #[.string ⟨#[]⟩, .nilFunc] 93))
      have HG1 := Lib.hid (gb_trans KG.out g1)
      have HNE : Hid (w.heap.size + 2 ≤ w1.heap.size) := Lib.hid (by have := g1.size; rw [alloc_size, alloc_size] at this; exact this)
      clear g1
      rw [HR.out]
      have HZ := Lib.hid (Blk.new w1 93 #[.string ⟨#[]⟩, .nilFunc])
      go_wp2_with (refine wpList_storeRule rfl (.tmp 6) (.tmp 15) rfl w1.heap.size _ s F H1.out rfl rfl HZ.out rfl ?_
                   intro w2 hb2 hg2
                   have hb3 := HB0.out.grown hg2 (fun e => by have := Option.some.inj e; have := HNE.out; omega)
                   have hb4 := HB1.out.grown hg2 (fun e => by have := Option.some.inj e; have := HNE.out; omega)
                   have c0 : w2.cell? ⟨w.heap.size, 0, none⟩ = some (.int .i64 W) := hb3.cell 0
                   have c1 : w2.cell? ⟨w.heap.size, 1, none⟩ = some (.int .i64 H) := hb3.cell 1
                   have c2 : w2.cell? ⟨w.heap.size + 1, 0, none⟩ = some (.slice none 0 0) := hb4.cell 0
                   have c3 := hb4.frozen 0
                   have HB4 := Lib.hid hb4
                   have HG2 := Lib.hid (gb_fresh (gb_alloc HG1.out _) hg2 HG1.out.size)
                   clear hg2 hb2 hb3 hb4)
      refine (HO.out _).mono ?_
      rintro e w3 ⟨rfl, g3⟩
      have hb5 := HB4.out.grown g3 (by simp)
      have d2 : w3.cell? ⟨w.heap.size + 1, 0, none⟩ = some (.slice none 0 0) := hb5.cell 0
      have d3 := hb5.frozen 0
      have HB5 := Lib.hid hb5
      have HG3 := Lib.hid (gb_trans HG2.out g3)
      clear g3 hb5
      go_wp2_with fail
      have h1 := (HB5.out.set_ 0 (.slice none 0 0)).cell 0
      simp at h1
      refine bodyPost_ret (v := .tuple #[.agg #[.slice none 0 0], .bool false]) (by simp [results, Try.results32, go_sem, h1]) rfl ⟨_, rfl, World.ownsRow_nil _ _ _ _, ?_⟩
      exact gb_below_none (gb_setCell HG3.out (.inr (by show w.heap.size ≤ w.heap.size + 1; omega)) _) (Nat.le_refl _)
    | true =>
      obtain ⟨f, hf, hgo, hcall⟩ := ruleFn_calls (r := r) (by simp at hr; omega) (by simp at hr; omega)
      have HR : Hid (ruleC r = #[.string s, .func (.func f) #[] #[]]) := Lib.hid (by rw [ruleC, hf, hs])
      have hB : b = true := by rw [← hb, stdOk, ho, hr]; rfl
      have hPP : P = stdTab W H r := by rw [← hP, stdRes, hb, hB]; rfl
      subst hB
      obtain ⟨k, hk⟩ : ∃ k, cntN W H = k := ⟨_, rfl⟩
      have hki := cntN_int W H
      have hk1 := cntN_le W H
      rw [hk] at hki hk1
      have HO := Lib.hid (fun w => implGridOkV W H true ho w)
      have HN := Lib.hid (fun w => implNodeCountV2 W H (k : Int) hki.symm w)
      have HC := Lib.hid (fun a b ha hb w => hcall W H a b ha hb w)
      have HK := Lib.hid hk
      have HPP := Lib.hid hPP
      clear hcall hf hr hs ho hb hP hki hk hPP
      go_enter Try.func32, Try.ntmps32
      go_wp2_with fail
      refine (HF.out _).mono ?_
      rintro e w1 ⟨rfl, g1⟩
      have hb0 := (K0.out.grown g1 (by simp)).alloc (.cells #[.string ⟨#[]⟩, .nilFunc] 93)
      have hb1 := (K1.out.grown g1 (by simp)).alloc (.cells #[.string ⟨#[]⟩, .nilFunc] 93)
      have HB0 := Lib.hid hb0
      have HB1 := Lib.hid hb1
      have HG1 := Lib.hid (gb_trans KG.out g1)
      have HNE : Hid (w.heap.size + 2 ≤ w1.heap.size) := Lib.hid (by have := g1.size; rw [alloc_size, alloc_size] at this; exact this)
      clear g1 hb0 hb1
      rw [HR.out]
      have HZ := Lib.hid (Blk.new w1 93 #[.string ⟨#[]⟩, .nilFunc])
      go_wp2_with (refine wpList_storeRule rfl (.tmp 6) (.tmp 15) rfl w1.heap.size _ s (.func (.func f) #[] #[]) (by simp [Value.oneCell']) rfl rfl HZ.out rfl ?_
                   intro w2 hb2 hg2
                   have hb3 := HB0.out.grown hg2 (fun e => by have := Option.some.inj e; have := HNE.out; omega)
                   have hb4 := HB1.out.grown hg2 (fun e => by have := Option.some.inj e; have := HNE.out; omega)
                   have c0 : w2.cell? ⟨w.heap.size, 0, none⟩ = some (.int .i64 W) := hb3.cell 0
                   have c1 : w2.cell? ⟨w.heap.size, 1, none⟩ = some (.int .i64 H) := hb3.cell 1
                   have HB3 := Lib.hid hb3
                   have HB4 := Lib.hid hb4
                   have HB2 := Lib.hid hb2
                   have HG2 := Lib.hid (gb_fresh (gb_alloc HG1.out _) hg2 HG1.out.size)
                   clear hg2 hb2 hb3 hb4)
      refine (HO.out _).mono ?_
      rintro e w3 ⟨rfl, g3⟩
      have hb0 := HB3.out.grown g3 (by simp)
      have c0 : w3.cell? ⟨w.heap.size, 0, none⟩ = some (.int .i64 W) := hb0.cell 0
      have c1 : w3.cell? ⟨w.heap.size, 1, none⟩ = some (.int .i64 H) := hb0.cell 1
      have HB5 := Lib.hid hb0
      have HB6 := Lib.hid (HB4.out.grown g3 (by simp))
      have HB7 := Lib.hid (HB2.out.grown g3 (by simp))
      have HG3 := Lib.hid (gb_trans HG2.out g3)
      clear g3 hb0
      go_wp2_with fail
      refine (HN.out _).mono ?_
      rintro e w4 ⟨rfl, g4⟩
      have hb0 := HB5.out.grown g4 (by simp)
      have HB8 := Lib.hid hb0
      have HB9 := Lib.hid (HB6.out.grown g4 (by simp))
      have HB10 := Lib.hid (HB7.out.grown g4 (by simp))
      have HG4 := Lib.hid (gb_trans HG3.out g4)
      clear g4 hb0
      have HSZ : Hid (w1.heap.size + 1 ≤ w4.heap.size) := Lib.hid (by have := HB10.out.lt; omega)
      have hkk : k * k ≤ 256 := Nat.mul_le_mul hk1 hk1
      have hmul : wrap64 ((k : Int) * (k : Int)) = ((k * k : Nat) : Int) := by rw [← Int.natCast_mul]; exact IntWalk.wrap64_in _ (by omega)
      go_wp2_with (at_make; refine wpList_make_own _ rfl _ _ 24 rfl (w1.heap.size + 1) 3 i0 (.int .i64 0) 1 Try.underlying24 hi hz0 hz1 .i64 .i64 _ (k * k) rfl rfl (by omega) (by rw [hz2]; omega) (by unfold maxLen; omega) HSZ.out ?_; intro w5 hown5 hgrow5
                   have HX := Lib.hid (show StdAt W H r s (.func (.func f) #[] #[]) w1.heap.size w 0 _ w5 from ⟨HB8.out.grown hgrow5 (by simp), HB9.out.grown hgrow5 (by simp), HB10.out.grown hgrow5 (by simp), hown5, gb_below_none (gb_trans HG4.out hgrow5) (Nat.le_refl _)⟩); clear hown5 hgrow5)
      obtain ⟨g, hg⟩ : ∃ g, w1.heap.size = g := ⟨_, rfl⟩
      rw [hg] at HX HNE
      (try rw [hg])
      clear hg hmul
      have HKI : Hid ((k : Int) = countG W H) := Lib.hid (by rw [← HK.out, cntN_int])
      go_loopw [9, 32] (fun v i wr => ∃ x : Nat, i = .int .i64 (x : Int) ∧ x ≤ k ∧ StdAt W H r s (.func (.func f) #[] #[]) g w (x * k) v wr) (fun _ i _ => 17 - (intOf i).toNat)
      case atStart => exact ⟨0, rfl, Nat.zero_le _, by rw [Nat.zero_mul]; exact HX.out⟩
      case round =>
        obtain ⟨x, rfl, hxk, hst⟩ := hrel
        have HS0 := Lib.hid hst
        clear hst
        by_cases hlt : x < k
        · have HXK := Lib.hid hlt
          go_wp2_with fail
          go_loopw [9, 36] (fun v i wr => ∃ y : Nat, i = .int .i64 (y : Int) ∧ y ≤ k ∧ StdAt W H r s (.func (.func f) #[] #[]) g w (x * k + y) v wr) (fun _ i _ => 17 - (intOf i).toNat)
          case atStart => exact ⟨0, rfl, Nat.zero_le _, HS0.out⟩
          case round =>
            obtain ⟨y, rfl, hyk, hst⟩ := hrel
            have HS1 := Lib.hid hst
            by_cases hlt2 : y < k
            · have a0 : wr.cell? ⟨w.heap.size, 0, none⟩ = some (.int .i64 W) := hst.1.cell 0
              have a1 : wr.cell? ⟨w.heap.size, 1, none⟩ = some (.int .i64 H) := hst.1.cell 1
              have a2 : wr.cell? ⟨g, 1, none⟩ = some (.func (.func f) #[] #[]) := hst.2.2.1.cell 1
              have hlen : x * k + y < k * k := by
                have h1 : (x + 1) * k ≤ k * k := Nat.mul_le_mul_right k HXK.out
                rw [Nat.add_mul, Nat.one_mul] at h1
                omega
              have hax := has_cnt HKI.out HXK.out
              have hay := has_cnt HKI.out hlt2
              have HE := Lib.hid (stdTo_pair (r := r) (x := x) HKI.out hlt2)
              clear hst
              go_wp2_with fail
              refine (HC.out x y hax hay _).mono ?_
              rintro e w6 ⟨rfl, g6⟩
              have hs6 := HS1.out.none g6
              have HS6 := Lib.hid hs6
              have hown6 := hs6.2.2.2.1
              have hsz6 : g + 1 ≤ w6.heap.size := hs6.2.2.1.lt
              have b3' := Lib.hid (show ∀ u ∈ [Value.int .i64 (stdPort W r x y)], u.oneCell' = true by simp [Value.oneCell'])
              have b4' := Lib.hid (show x * k + y + 1 ≤ maxLen by unfold maxLen; omega)
              clear g6 hs6 a0 a1 a2 hax hay
              go_wp2_with (at_builtin; refine wpList_append_own _ rfl _ _ 24 rfl (g + 1) 3 i0 (.int .i64 0) 1 8 Try.underlying24 hi hz0 hz1 hz2 rfl (by decide) _ (x * k + y) _ rfl (hown6.alloc _) ⟨w6.heap.size, 0, none⟩ 1 1 [.int .i64 (stdPort W r x y)] rfl rfl (World.news_of_block (cs := #[.int .i64 (stdPort W r x y)]) (t := 3) (fr := (0, 0)) (heap_alloc_new w6 _)) b3'.out b4'.out (by omega) (by simp; omega) ?_; intro v' w7 hown7 hgrow7 _; have HS7 := Lib.hid (HS6.out.app HNE.out hgrow7 hown7 HE.out); clear hown7 hgrow7 hown6)
              go_roundw
              case rel => exact ⟨y + 1, by go_num, by omega, HS7.out⟩
              case measure => simp [intOf]; omega
            · obtain rfl : y = k := by omega
              clear hst
              go_wp2_with fail
              go_roundw
              case rel => exact ⟨x + 1, by go_num, by omega, by rw [Nat.add_mul, Nat.one_mul]; exact HS1.out⟩
              case measure => simp [intOf]; omega
        · obtain rfl : x = k := by omega
          obtain ⟨Av, cv, rfl, _⟩ := own_form HS0.out.2.2.2.1
          have h1 := (HS0.out.2.1.set_ 0 (.slice Av (x * x) cv)).cell 0
          simp at h1
          have f1 := HS0.out.2.1.frozen 0
          have a1 : wr.cell? ⟨w.heap.size + 1, 0, none⟩ = some (.slice none 0 0) := HS0.out.2.1.cell 0
          go_wp2_with fail
          have HSQ := Lib.hid (show sqG W H = x * x from by rw [← HK.out]; rfl)
          refine bodyPost_ret (v := .tuple #[.agg #[.slice Av (x * x) cv], .bool true]) (by simp [results, Try.results32, go_sem, h1]) rfl ⟨_, rfl, ?_, ?_⟩
          · have := ownsRow_setCell_below HS0.out.2.2.2.1 (a := ⟨w.heap.size + 1, 0, none⟩) (by show w.heap.size + 1 < g + 1; have := HNE.out; omega) (.slice Av (x * x) cv)
            rw [HPP.out, stdTab, stdTo_len, HSQ.out]
            exact own_less this (by have := HNE.out; omega)
          · exact gb_below_none (gb_setCell (gb_of_below HS0.out.2.2.2.2 none) (.inr (by show w.heap.size ≤ w.heap.size + 1; omega)) _) (Nat.le_refl _)
end Go.Proofs.Ytecaehkckamhkaa
end

section
namespace Go.Proofs.Ytecaehkckamhkaa
open Go.ChangeShapes Go.WideShapes Go.ChangeAt Go.RowKit
set_option linter.unusedVariables false

/-- The node at the end of a channel. -/
def endC (W H c : Int) : Int := nextG W H (c / 4) (c % 4)
/-- Channel i of a route exists and begins where the one before ends. -/
def linkG (W H : Int) (L r : List Int) (i : Nat) : Bool := hasChG W H L (r.getD i 0) && (decide (i = 0) || decide (r.getD i 0 / 4 = endC W H (r.getD (i - 1) 0)))
def routeG (W H : Int) (L r : List Int) : Bool := meshG W H L && decide (0 < r.length) && (List.range r.length).all (linkG W H L r)
/-- The nodes of the first k channels. -/
def nodesTo (W H : Int) (r : List Int) (k : Nat) : List Int := (r.getD 0 0 / 4) :: (r.take k).map (endC W H)
def nodesG (W H : Int) (L r : List Int) : List Int := if routeG W H L r then nodesTo W H r r.length else []
/-- No number of a list is one of those before it, and there is one. -/
def freeAt (N : List Int) (i : Nat) : Bool := !inG (N.take i) (N.getD i 0)
def freeG (N : List Int) : Bool := decide (0 < N.length) && (List.range N.length).all (freeAt N)
def joinG (W H : Int) (L a b : List Int) : List Int := if routeG W H L (a ++ b) then a ++ b else []
/-- The channel between the same nodes in the other direction. -/
def backC (W H c : Int) : Int := 4 * endC W H c + oppG (c % 4)
/-- The channels back, from the last one on: the first k of them. -/
def backTo (W H : Int) (r : List Int) (k : Nat) : List Int := (r.reverse.take k).map (backC W H)
def backOk (W H : Int) (L r : List Int) : Bool := routeG W H L r && r.all fun c => hasChG W H L (backC W H c)
def backG (W H : Int) (L r : List Int) : List Int := if backOk W H L r then r.reverse.map (backC W H) else []

section
variable {W H : Int} {L r : List Int}
def linksTo (W H : Int) (L r : List Int) (k : Nat) : Prop := ∀ j, j < k → linkG W H L r j = true
theorem links_zero : linksTo W H L r 0 := fun _ h => by omega
theorem links_succ {k : Nat} (h : linksTo W H L r k) (hk : linkG W H L r k = true) : linksTo W H L r (k + 1) := fun j hj => by
  rcases Nat.lt_succ_iff_lt_or_eq.1 hj with h1 | rfl
  · exact h j h1
  · exact hk
theorem route_yes (hm : meshG W H L = true) (h0 : 0 < r.length) (h : linksTo W H L r r.length) : routeG W H L r = true := by
  simp only [routeG, hm, Bool.true_and, decide_eq_true h0, List.all_eq_true, List.mem_range]; exact h
theorem route_no {i : Nat} (hi : i < r.length) (h : linkG W H L r i = false) : routeG W H L r = false := by
  cases hr : routeG W H L r with
  | false => rfl
  | true =>
    simp only [routeG, Bool.and_eq_true, List.all_eq_true, List.mem_range] at hr
    have := hr.2 i hi
    rw [h] at this
    cases this
theorem route_mesh (h : meshG W H L = false) : routeG W H L r = false := by simp [routeG, h]
theorem route_nil : routeG W H L [] = false := by simp [routeG]
theorem route_all (h : routeG W H L r = true) : meshG W H L = true ∧ 0 < r.length ∧ linksTo W H L r r.length := by
  simp only [routeG, Bool.and_eq_true, List.all_eq_true, List.mem_range, decide_eq_true_eq] at h
  exact ⟨h.1.1, h.1.2, h.2⟩
theorem route_pos (h : routeG W H L r = true) : 0 < r.length := (route_all h).2.1
theorem link_has {i : Nat} (h : linkG W H L r i = true) : hasChG W H L (r.getD i 0) = true := by simp only [linkG, Bool.and_eq_true] at h; exact h.1
theorem link_lost {i : Nat} {c : Int} (hc : r.getD i 0 = c) (h : hasChG W H L c = false) : linkG W H L r i = false := by unfold linkG; rw [hc, h, Bool.false_and]
theorem link_first {c : Int} (hc : r.getD 0 0 = c) (h : hasChG W H L c = true) : linkG W H L r 0 = true := by simp only [linkG, hc, h, decide_true, Bool.true_or, Bool.and_self]
theorem link_next {i : Nat} {c x : Int} (hc : r.getD (i + 1) 0 = c) (hx : endC W H (r.getD i 0) = x) (h : hasChG W H L c = true) : linkG W H L r (i + 1) = decide (c / 4 = x) := by
  simp only [linkG, Nat.add_sub_cancel, hc, hx, h, Bool.true_and]
  simp
/-- Where the first k channels have led. -/
def atR (W H : Int) (r : List Int) (k : Nat) : Int := if k = 0 then r.getD 0 0 / 4 else endC W H (r.getD (k - 1) 0)
theorem link_at {k : Nat} {c : Int} (hc : r.getD k 0 = c) (h : hasChG W H L c = true) : linkG W H L r k = decide (c / 4 = atR W H r k) := by
  cases k with
  | zero => rw [link_first hc h, atR, if_pos rfl, hc]; simp
  | succ k => rw [link_next hc rfl h, atR, if_neg (by omega), Nat.add_sub_cancel]
theorem atR_succ (k : Nat) : atR W H r (k + 1) = endC W H (r.getD k 0) := by rw [atR, if_neg (by omega), Nat.add_sub_cancel]
theorem route_snoc {k : Nat} {c : Int} (hk : k < r.length) (hc : r.getD k 0 = c) : r.take (k + 1) = r.take k ++ [c] := by
  rw [List.take_add_one, List.getElem?_eq_getElem hk, ← hc, List.getD_eq_getElem?_getD, List.getElem?_eq_getElem hk]; rfl
theorem nodesTo_zero : nodesTo W H r 0 = [r.getD 0 0 / 4] := rfl
theorem nodesTo_succ {k : Nat} {c : Int} (hk : k < r.length) (hc : r.getD k 0 = c) : nodesTo W H r (k + 1) = nodesTo W H r k ++ [endC W H c] := by
  unfold nodesTo
  rw [route_snoc hk hc]
  simp
theorem nodesTo_len {k : Nat} (hk : k ≤ r.length) : (nodesTo W H r k).length = k + 1 := by simp [nodesTo]; omega
theorem nodesTo_last {k : Nat} (hk : k ≤ r.length) : (nodesTo W H r k).getD k 0 = atR W H r k := by
  cases k with
  | zero => rfl
  | succ k =>
    have hl := nodesTo_len (W := W) (H := H) (r := r) (k := k) (by omega)
    rw [nodesTo_succ (c := r.getD k 0) (by omega) rfl, atR_succ, List.getD_eq_getElem?_getD, List.getElem?_append_right (by omega), hl, Nat.sub_self]
    rfl
theorem nodes_yes (h : routeG W H L r = true) : nodesG W H L r = nodesTo W H r r.length := if_pos h
theorem nodes_no (h : routeG W H L r = false) : nodesG W H L r = [] := by simp [nodesG, h]
theorem nodes_len (h : routeG W H L r = true) : (nodesG W H L r).length = r.length + 1 := by rw [nodes_yes h, nodesTo_len (Nat.le_refl _)]
theorem nodes_pos : decide (0 < (nodesG W H L r).length) = routeG W H L r := by
  cases h : routeG W H L r with
  | false => rw [nodes_no h]; rfl
  | true => rw [nodes_len h]; simp
theorem nodes_le : (nodesG W H L r).length ≤ r.length + 1 := by
  cases h : routeG W H L r with
  | false => rw [nodes_no h]; simp
  | true => exact Nat.le_of_eq (nodes_len h)

def freeTo (N : List Int) (k : Nat) : Prop := ∀ j, j < k → freeAt N j = true
theorem free_zero (N : List Int) : freeTo N 0 := fun _ h => by omega
theorem free_succ {N : List Int} {k : Nat} (h : freeTo N k) (hk : freeAt N k = true) : freeTo N (k + 1) := fun j hj => by
  rcases Nat.lt_succ_iff_lt_or_eq.1 hj with h1 | rfl
  · exact h j h1
  · exact hk
theorem free_yes {N : List Int} (h : freeTo N N.length) : freeG N = decide (0 < N.length) := by
  have : (List.range N.length).all (freeAt N) = true := by simp only [List.all_eq_true, List.mem_range]; exact h
  simp [freeG, this]
theorem free_no {N : List Int} {i : Nat} (hi : i < N.length) (h : freeAt N i = false) : freeG N = false := by
  have : (List.range N.length).all (freeAt N) = false := by rw [List.all_eq_false]; exact ⟨i, List.mem_range.2 hi, by rw [h]; decide⟩
  simp [freeG, this]
theorem free_at {N : List Int} {i : Nat} {x : Int} {b : Bool} (hx : N.getD i 0 = x) (h : inG (N.take i) x = b) : freeAt N i = !b := by simp only [freeAt, hx, h]

theorem back_zero : backTo W H r 0 = [] := rfl
theorem rev_at {k : Nat} {c : Int} (hk : k < r.length) (hc : r.getD (r.length - 1 - k) 0 = c) : r.reverse[k]? = some c := by
  rw [List.getElem?_reverse hk, ← hc, List.getD_eq_getElem?_getD, List.getElem?_eq_getElem (by omega)]; rfl
theorem back_succ {k : Nat} {c : Int} (hk : k < r.length) (hc : r.getD (r.length - 1 - k) 0 = c) : backTo W H r (k + 1) = backTo W H r k ++ [backC W H c] := by
  unfold backTo
  rw [List.take_add_one, rev_at hk hc]
  simp
theorem back_len {k : Nat} (hk : k ≤ r.length) : (backTo W H r k).length = k := by simp [backTo]; omega
theorem back_full : backTo W H r r.length = r.reverse.map (backC W H) := by unfold backTo; rw [List.take_of_length_le (by simp)]
/-- The first k channels back exist. -/
def backsTo (W H : Int) (L r : List Int) (k : Nat) : Prop := ∀ j, j < k → hasChG W H L (backC W H (r.getD (r.length - 1 - j) 0)) = true
theorem backs_zero : backsTo W H L r 0 := fun _ h => by omega
theorem backs_succ {k : Nat} {c : Int} (h : backsTo W H L r k) (hc : r.getD (r.length - 1 - k) 0 = c) (hk : hasChG W H L (backC W H c) = true) : backsTo W H L r (k + 1) := fun j hj => by
  rcases Nat.lt_succ_iff_lt_or_eq.1 hj with h1 | rfl
  · exact h j h1
  · rw [hc]; exact hk
theorem backs_all (h : backsTo W H L r r.length) : (r.all fun c => hasChG W H L (backC W H c)) = true := by
  rw [List.all_eq_true]
  intro c hc
  obtain ⟨j, hj, rfl⟩ := List.getElem_of_mem hc
  have := h (r.length - 1 - j) (by omega)
  rw [show r.length - 1 - (r.length - 1 - j) = j by omega, List.getD_eq_getElem?_getD, List.getElem?_eq_getElem hj] at this
  exact this
theorem backOk_yes (hr : routeG W H L r = true) (h : backsTo W H L r r.length) : backOk W H L r = true := by rw [backOk, hr, backs_all h]; rfl
theorem backOk_no {c : Int} {i : Nat} (hi : i < r.length) (hc : r.getD i 0 = c) (h : hasChG W H L (backC W H c) = false) : backOk W H L r = false := by
  have hm : c ∈ r := by rw [← hc, List.getD_eq_getElem?_getD, List.getElem?_eq_getElem hi]; exact List.getElem_mem hi
  cases hb : backOk W H L r with
  | false => rfl
  | true =>
    simp only [backOk, Bool.and_eq_true, List.all_eq_true] at hb
    have := hb.2 c hm
    rw [h] at this
    cases this
theorem backOk_route (h : routeG W H L r = false) : backOk W H L r = false := by simp [backOk, h]
theorem backG_yes (h : backOk W H L r = true) : backG W H L r = backTo W H r r.length := by rw [backG, if_pos h, back_full]
theorem backG_no (h : backOk W H L r = false) : backG W H L r = [] := by simp [backG, h]
theorem backG_le : (backG W H L r).length ≤ r.length := by
  cases h : backOk W H L r with
  | false => rw [backG_no h]; simp
  | true => rw [backG_yes h, back_len (Nat.le_refl _)]; exact Nat.le_refl _
theorem joinG_yes {a b : List Int} (h : routeG W H L (a ++ b) = true) : joinG W H L a b = a ++ b := if_pos h
theorem joinG_no {a b : List Int} (h : routeG W H L (a ++ b) = false) : joinG W H L a b = [] := by simp [joinG, h]
theorem joinG_le {a b : List Int} : (joinG W H L a b).length ≤ a.length + b.length := by
  unfold joinG
  split
  · simp
  · simp
theorem endC_le (W H c : Int) : -1 ≤ endC W H c ∧ endC W H c ≤ 15 := nextG_le _ _ _ _
theorem oppG_le (p : Int) : -1 ≤ oppG p ∧ oppG p ≤ 4 := by
  unfold oppG
  repeat' split
  all_goals omega
theorem backC_le (W H c : Int) : -5 ≤ backC W H c ∧ backC W H c ≤ 64 := by
  have h1 := endC_le W H c
  have h2 := oppG_le (c % 4)
  unfold backC; omega
theorem has_leads {c : Int} (h : hasChG W H L c = true) : 0 ≤ c ∧ c < 4 * countG W H ∧ 0 ≤ endC W H c := by
  simp only [hasChG, Bool.and_eq_true, leadsG, decide_eq_true_eq] at h
  exact h.1
theorem has_ok {c : Int} (h : hasChG W H L c = true) : okG W H = true := by
  have h1 := (has_leads h).2.2
  unfold endC nextG at h1
  split at h1
  · rename_i hh; exact (hasG_ok hh).1
  · omega
/-- The nodes of the first k channels, the first node being z. -/
def nodesZ (W H : Int) (r : List Int) (z : Int) (k : Nat) : List Int := z :: (r.take k).map (endC W H)
def atZ (W H : Int) (r : List Int) (z : Int) (k : Nat) : Int := if k = 0 then z else endC W H (r.getD (k - 1) 0)
theorem nodesZ_zero (z : Int) : nodesZ W H r z 0 = [z] := rfl
theorem nodesZ_succ {z : Int} {k : Nat} {c : Int} (hk : k < r.length) (hc : r.getD k 0 = c) : nodesZ W H r z (k + 1) = nodesZ W H r z k ++ [endC W H c] := by
  unfold nodesZ
  rw [route_snoc hk hc]
  simp
theorem nodesZ_len {z : Int} {k : Nat} (hk : k ≤ r.length) : (nodesZ W H r z k).length = k + 1 := by simp [nodesZ]; omega
theorem atZ_succ (z : Int) {k : Nat} {c y : Int} (hc : r.getD k 0 = c) (hy : endC W H c = y) : atZ W H r z (k + 1) = y := by rw [atZ, if_neg (by omega), Nat.add_sub_cancel, hc, hy]
theorem link_z {z : Int} {k : Nat} {c : Int} (hz : 0 ≤ r.getD 0 0 → z = r.getD 0 0 / 4) (hc : r.getD k 0 = c) (h : hasChG W H L c = true) (h0 : 0 ≤ c) : linkG W H L r k = decide (c / 4 = atZ W H r z k) := by
  rw [link_at hc h]
  cases k with
  | zero => rw [atR, atZ, if_pos rfl, if_pos rfl, hz (by rw [hc]; exact h0)]
  | succ k => rw [atR, atZ, if_neg (by omega), if_neg (by omega)]
theorem nodes_z {z : Int} (hz : 0 ≤ r.getD 0 0 → z = r.getD 0 0 / 4) (hm : meshG W H L = true) (h0 : 0 < r.length) (h : linksTo W H L r r.length) : nodesG W H L r = nodesZ W H r z r.length := by
  have hl := (has_leads (link_has (h 0 h0))).1
  rw [nodes_yes (route_yes hm h0 h), nodesTo, nodesZ, hz hl]
end
end Go.Proofs.Ytecaehkckamhkaa
end

section
namespace Go.Proofs.Ytecaehkckamhkaa
open Go.ChangeShapes Go.WideShapes Go.ChangeAt Go.RowKit
set_option linter.unusedVariables false

theorem place_at {W H x y : Int} (hok : okG W H = true) (hx0 : 0 ≤ x) (hx1 : x < W) (hy0 : 0 ≤ y) (hy1 : y < H) :
    hasG W H (y * W + x) = true ∧ (y * W + x) % W = x ∧ (y * W + x) / W = y := by
  obtain ⟨hW, hH⟩ := okG_cases hok
  have hc : countG W H = W * H := by simp [countG, hok]
  rw [hasG_iff, hc]
  rcases hW with rfl | rfl | rfl | rfl <;> rcases hH with rfl | rfl | rfl | rfl <;> omega
theorem atG_of {W H x y : Int} (h : 0 ≤ atG W H x y) : okG W H = true ∧ 0 ≤ x ∧ x < W ∧ 0 ≤ y ∧ y < H ∧ atG W H x y = y * W + x := by
  unfold atG at h ⊢
  split at h
  · rename_i hc
    exact ⟨hc.1, hc.2.1, hc.2.2.1, hc.2.2.2.1, hc.2.2.2.2, by rw [if_pos hc]⟩
  · omega
theorem atG_in {W H x y : Int} (hok : okG W H = true) (hx0 : 0 ≤ x) (hx1 : x < W) (hy0 : 0 ≤ y) (hy1 : y < H) : atG W H x y = y * W + x := by
  unfold atG
  rw [if_pos ⟨hok, hx0, hx1, hy0, hy1⟩]
theorem next0 {W H n : Int} (h : hasG W H n = true) : nextG W H n 0 = atG W H (n % W) (n / W - 1) := by simp [nextG, h]
theorem next1 {W H n : Int} (h : hasG W H n = true) : nextG W H n 1 = atG W H (n % W + 1) (n / W) := by simp [nextG, h]
theorem next2 {W H n : Int} (h : hasG W H n = true) : nextG W H n 2 = atG W H (n % W) (n / W + 1) := by simp [nextG, h]
theorem next3 {W H n : Int} (h : hasG W H n = true) : nextG W H n 3 = atG W H (n % W - 1) (n / W) := by simp [nextG, h]
theorem next4 {W H n : Int} (h : hasG W H n = true) : nextG W H n 4 = n := by simp [nextG, h]

/-- One step to (dx, dy), and back. -/
theorem step_back {W H a b dx dy : Int} (ha : hasG W H a = true) (hb : atG W H (a % W + dx) (a / W + dy) = b) (h0 : 0 ≤ b) (hd : absI dx + absI dy = 1) :
    hasG W H b = true ∧ b % W = a % W + dx ∧ b / W = a / W + dy ∧ distG W H a b = 1 ∧ atG W H (b % W - dx) (b / W - dy) = a := by
  obtain ⟨hok, x0, x1, y0, y1, he⟩ := atG_of (by rw [hb]; exact h0)
  obtain ⟨p1, p2, p3⟩ := place_at hok x0 x1 y0 y1
  have hbe : b = (a / W + dy) * W + (a % W + dx) := by rw [← hb]; exact he
  rw [← hbe] at p1 p2 p3
  obtain ⟨q0, q1, q2, q3, q4⟩ := place_of ha
  refine ⟨p1, p2, p3, ?_, ?_⟩
  · rw [distG_ok ha p1, p2, p3, show a % W - (a % W + dx) = -dx by omega, show a / W - (a / W + dy) = -dy by omega, absI_neg, absI_neg]
    exact hd
  · rw [p2, p3, show a % W + dx - dx = a % W by omega, show a / W + dy - dy = a / W by omega, atG_in hok q0 q1 q2 q3, q4]

/-- What the law on neighbors asks of one port. -/
theorem neigh_fact {W H a q : Int} (ha : hasG W H a = true) (h0 : 0 ≤ q) (h1 : q ≤ 3) :
    ∃ b o : Int, nextG W H a q = b ∧ oppG q = o ∧ 0 ≤ o ∧ o ≤ 3 ∧ o ≠ q ∧ oppG o = q ∧ (0 ≤ b → nextG W H b o = a ∧ distG W H a b = 1) ∧ -1 ≤ b ∧ b ≤ 15 := by
  have hle := nextG_le W H a q
  have hq : q = 0 ∨ q = 1 ∨ q = 2 ∨ q = 3 := by omega
  rcases hq with rfl | rfl | rfl | rfl
  · refine ⟨_, 2, rfl, by decide, by omega, by omega, by omega, by decide, fun hb => ?_, hle⟩
    have hn := next0 ha
    obtain ⟨k1, k2, k3, k4, k5⟩ := step_back (dx := 0) (dy := -1) ha (b := nextG W H a 0) (by rw [hn, show a % W + 0 = a % W by omega, show a / W + -1 = a / W - 1 by omega]) hb (by decide)
    refine ⟨?_, k4⟩
    rw [next2 k1]
    rwa [show nextG W H a 0 % W - 0 = nextG W H a 0 % W by omega, show nextG W H a 0 / W - -1 = nextG W H a 0 / W + 1 by omega] at k5
  · refine ⟨_, 3, rfl, by decide, by omega, by omega, by omega, by decide, fun hb => ?_, hle⟩
    have hn := next1 ha
    obtain ⟨k1, k2, k3, k4, k5⟩ := step_back (dx := 1) (dy := 0) ha (b := nextG W H a 1) (by rw [hn, show a / W + 0 = a / W by omega]) hb (by decide)
    refine ⟨?_, k4⟩
    rw [next3 k1]
    rwa [show nextG W H a 1 / W - 0 = nextG W H a 1 / W by omega] at k5
  · refine ⟨_, 0, rfl, by decide, by omega, by omega, by omega, by decide, fun hb => ?_, hle⟩
    have hn := next2 ha
    obtain ⟨k1, k2, k3, k4, k5⟩ := step_back (dx := 0) (dy := 1) ha (b := nextG W H a 2) (by rw [hn, show a % W + 0 = a % W by omega]) hb (by decide)
    refine ⟨?_, k4⟩
    rw [next0 k1]
    rwa [show nextG W H a 2 % W - 0 = nextG W H a 2 % W by omega] at k5
  · refine ⟨_, 1, rfl, by decide, by omega, by omega, by omega, by decide, fun hb => ?_, hle⟩
    have hn := next3 ha
    obtain ⟨k1, k2, k3, k4, k5⟩ := step_back (dx := -1) (dy := 0) ha (b := nextG W H a 3) (by rw [hn, show a / W + 0 = a / W by omega, show a % W + -1 = a % W - 1 by omega]) hb (by decide)
    refine ⟨?_, k4⟩
    rw [next1 k1]
    rwa [show nextG W H a 3 / W - 0 = nextG W H a 3 / W by omega, show nextG W H a 3 % W - -1 = nextG W H a 3 % W + 1 by omega] at k5
end Go.Proofs.Ytecaehkckamhkaa
end

section
namespace Go.Proofs.Ytecaehkckamhkaa
open Go.ChangeShapes Go.WideShapes Go.ChangeAt Go.RowKit
set_option linter.unusedVariables false

section
variable {W H : Int} {L r : List Int}
/-- The channel back of a channel that leads somewhere. -/
theorem back_lead {c : Int} (h0 : 0 ≤ c) (h1 : c < 4 * countG W H) (h2 : 0 ≤ endC W H c) : leadsG W H (backC W H c) = true ∧ backC W H c / 4 = endC W H c ∧ endC W H (backC W H c) = c / 4 ∧ backC W H (backC W H c) = c := by
  have ha : hasG W H (c / 4) = true := hasG_iff.2 ⟨by omega, by omega⟩
  obtain ⟨b, o, hb, ho, o0, o3, _, hoo, hbk, _⟩ := neigh_fact (q := c % 4) ha (by omega) (by omega)
  have he : endC W H c = b := hb
  have hbb : backC W H c = 4 * b + o := by rw [backC, he, ho]
  rw [he] at h2 ⊢
  have h4 : (4 * b + o) / 4 = b := by omega
  have h5 : (4 * b + o) % 4 = o := by omega
  have h6 : endC W H (4 * b + o) = c / 4 := by rw [endC, h4, h5]; exact (hbk h2).1
  have hh := (hasG_iff.1 (next_has (W := W) (H := H) (n := c / 4) (p := c % 4) (by rw [hb]; exact h2))).2
  rw [hb] at hh
  rw [hbb]
  refine ⟨?_, h4, h6, ?_⟩
  · have h7 : 0 ≤ nextG W H ((4 * b + o) / 4) ((4 * b + o) % 4) := by show 0 ≤ endC W H (4 * b + o); rw [h6]; omega
    simp only [leadsG, decide_eq_true_eq]
    exact ⟨by omega, by omega, h7⟩
  · rw [backC, h6, h5, hoo]; omega
theorem back_has {c : Int} (h : hasChG W H L c = true) : leadsG W H (backC W H c) = true ∧ backC W H c / 4 = endC W H c ∧ endC W H (backC W H c) = c / 4 ∧ backC W H (backC W H c) = c := by
  obtain ⟨h0, h1, h2⟩ := has_leads h
  exact back_lead h0 h1 h2
theorem route_at (h : routeG W H L r = true) {j : Nat} (hj : j < r.length) : hasChG W H L (r.getD j 0) = true ∧ r.getD j 0 / 4 = atR W H r j := by
  have hl := (route_all h).2.2 j hj
  have hh := link_has hl
  refine ⟨hh, ?_⟩
  rw [link_at rfl hh] at hl
  exact of_decide_eq_true hl
theorem nodes_at (h : routeG W H L r = true) {j : Nat} (hj : j ≤ r.length) : (nodesG W H L r).getD j 0 = atR W H r j := by
  rw [nodes_yes h, nodesTo, List.take_of_length_le (Nat.le_refl _)]
  cases j with
  | zero => rfl
  | succ j => rw [atR_succ, List.getD_cons_succ, List.getD_eq_getElem?_getD, List.getElem?_map, List.getD_eq_getElem?_getD, List.getElem?_eq_getElem (by omega)]; rfl
theorem rev_get (hn : 0 < r.length) {j : Nat} (hj : j < r.length) : (r.reverse.map (backC W H)).getD j 0 = backC W H (r.getD (r.length - 1 - j) 0) := by
  rw [List.getD_eq_getElem?_getD, List.getElem?_map, List.getElem?_reverse hj, List.getD_eq_getElem?_getD, List.getElem?_eq_getElem (by omega)]; rfl
theorem backOk_all (h : backOk W H L r = true) : routeG W H L r = true ∧ ∀ j, j < r.length → hasChG W H L (backC W H (r.getD j 0)) = true := by
  simp only [backOk, Bool.and_eq_true, List.all_eq_true] at h
  refine ⟨h.1, fun j hj => h.2 _ ?_⟩
  rw [List.getD_eq_getElem?_getD, List.getElem?_eq_getElem hj]
  exact List.getElem_mem hj
/-- The route back. -/
theorem back_route (h : backOk W H L r = true) : routeG W H L (backG W H L r) = true ∧ (backG W H L r).length = r.length ∧
    (∀ j, j < r.length → (backG W H L r).getD j 0 = backC W H (r.getD (r.length - 1 - j) 0)) ∧ ∀ j, j ≤ r.length → atR W H (backG W H L r) j = atR W H r (r.length - j) := by
  obtain ⟨hr, hb⟩ := backOk_all h
  have hn := route_pos hr
  have hB : backG W H L r = r.reverse.map (backC W H) := if_pos h
  have hlen : (backG W H L r).length = r.length := by rw [hB]; simp
  have hg : ∀ j, j < r.length → (backG W H L r).getD j 0 = backC W H (r.getD (r.length - 1 - j) 0) := fun j hj => by rw [hB]; exact rev_get hn hj
  have hat : ∀ j, j ≤ r.length → atR W H (backG W H L r) j = atR W H r (r.length - j) := fun j hj => by
    cases j with
    | zero =>
      rw [atR, if_pos rfl, hg 0 hn, (back_has (route_at hr (j := r.length - 1 - 0) (by omega)).1).2.1, atR, if_neg (by omega)]
      congr 2
    | succ j =>
      obtain ⟨q1, q2⟩ := route_at hr (j := r.length - 1 - j) (by omega)
      rw [atR_succ, hg j (by omega), (back_has q1).2.2.1, q2]
      congr 1
      omega
  refine ⟨route_yes (route_all hr).1 (by omega) (fun j hj => ?_), hlen, hg, hat⟩
  rw [hlen] at hj
  have q1 := (route_at hr (j := r.length - 1 - j) (by omega)).1
  rw [link_at (hg j hj) (hb _ (by omega)), hat j (by omega), (back_has q1).2.1, atR, if_neg (by omega)]
  refine decide_eq_true ?_
  congr 2
  omega
theorem back_back (h : backOk W H L r = true) : backOk W H L (backG W H L r) = true ∧ backG W H L (backG W H L r) = r := by
  obtain ⟨hr, hb⟩ := backOk_all h
  obtain ⟨h1, h2, h3, h4⟩ := back_route h
  have hall : backsTo W H L (backG W H L r) (backG W H L r).length := fun j hj => by
    rw [h2] at hj
    rw [h2, h3 _ (by omega)]
    have q1 := (route_at hr (j := r.length - 1 - (r.length - 1 - j)) (by omega)).1
    rw [(back_has q1).2.2.2]
    exact q1
  have hk := backOk_yes h1 hall
  refine ⟨hk, ?_⟩
  obtain ⟨_, g2, g3, _⟩ := back_route hk
  refine List.ext_getElem (by rw [g2, h2]) fun i i1 i2 => ?_
  have e1 := g3 i (by rw [h2]; omega)
  rw [h2, h3 _ (by omega)] at e1
  have q1 := (route_at hr (j := r.length - 1 - (r.length - 1 - i)) (by omega)).1
  rw [(back_has q1).2.2.2] at e1
  rw [List.getD_eq_getElem?_getD, List.getD_eq_getElem?_getD, List.getElem?_eq_getElem (by omega), List.getElem?_eq_getElem (by omega)] at e1
  simp only [Option.getD_some] at e1
  rw [e1]
  congr 1
  omega
theorem back_round (h : backOk W H L r = true) : routeG W H L (r ++ backG W H L r) = true := by
  obtain ⟨hr, hb⟩ := backOk_all h
  obtain ⟨h1, h2, h3, h4⟩ := back_route h
  have ga : ∀ j, j < r.length → (r ++ backG W H L r).getD j 0 = r.getD j 0 := fun j hj => by
    rw [List.getD_eq_getElem?_getD, List.getD_eq_getElem?_getD, List.getElem?_append_left hj]
  have gb : ∀ j, (r ++ backG W H L r).getD (r.length + j) 0 = (backG W H L r).getD j 0 := fun j => by
    rw [List.getD_eq_getElem?_getD, List.getD_eq_getElem?_getD, List.getElem?_append_right (by omega), Nat.add_sub_cancel_left]
  refine route_yes (route_all hr).1 (by rw [List.length_append]; have := route_pos hr; omega) (fun i hi => ?_)
  rw [List.length_append, h2] at hi
  have hn := route_pos hr
  rcases Nat.lt_or_ge i r.length with hlt | hge
  · obtain ⟨q1, q2⟩ := route_at hr hlt
    rw [link_at (ga i hlt) q1, q2]
    refine decide_eq_true ?_
    cases i with
    | zero => rw [atR, atR, if_pos rfl, if_pos rfl, ga 0 hn]
    | succ i => rw [atR_succ, atR_succ, ga i (by omega)]
  · obtain ⟨j, rfl⟩ : ∃ j, i = r.length + j := ⟨i - r.length, by omega⟩
    obtain ⟨q1, q2⟩ := route_at h1 (j := j) (by omega)
    rw [link_at (gb j) q1, q2]
    refine decide_eq_true ?_
    rw [h4 j (by omega)]
    cases j with
    | zero =>
      have : r.length - 0 = r.length := by omega
      rw [this]
      obtain ⟨m, hm⟩ : ∃ m, r.length = m + 1 := ⟨r.length - 1, by omega⟩
      rw [Nat.add_zero, hm, atR_succ, atR_succ, ga m (by omega)]
    | succ j =>
      rw [show r.length + (j + 1) = (r.length + j) + 1 by omega, atR_succ, gb j, ← atR_succ, h4 (j + 1) (by omega)]
/-- Without broken channels every route can be turned back. -/
theorem back_free (h : routeG W H [] r = true) : backOk W H [] r = true := by
  refine backOk_yes h (fun j hj => ?_)
  have q1 := (route_at h (j := r.length - 1 - j) (by omega)).1
  simp only [hasChG, (back_has q1).1, inG]
  rfl

/-- A list grows by a channel that begins where it has led. -/
theorem links_push {c : Int} (h : linksTo W H L r r.length) (hc : hasChG W H L c = true) (hx : 0 < r.length → c / 4 = atR W H r r.length) :
    linksTo W H L (r ++ [c]) (r ++ [c]).length ∧ atR W H (r ++ [c]) (r ++ [c]).length = endC W H c := by
  have ga : ∀ j, j < r.length → (r ++ [c]).getD j 0 = r.getD j 0 := fun j hj => by
    rw [List.getD_eq_getElem?_getD, List.getD_eq_getElem?_getD, List.getElem?_append_left hj]
  have gc : (r ++ [c]).getD r.length 0 = c := by
    rw [List.getD_eq_getElem?_getD, List.getElem?_append_right (Nat.le_refl _), Nat.sub_self]; rfl
  have hl : (r ++ [c]).length = r.length + 1 := by simp
  refine ⟨?_, by rw [hl, atR_succ, gc]⟩
  rw [hl]
  refine links_succ (fun j hj => ?_) ?_
  · have := h j hj
    cases j with
    | zero => rw [linkG, ga 0 hj]; rw [linkG] at this; simpa using this
    | succ j => rw [linkG, ga _ hj, Nat.add_sub_cancel, ga j (by omega)]; rw [linkG, Nat.add_sub_cancel] at this; exact this
  · rw [link_at gc hc]
    refine decide_eq_true ?_
    rcases Nat.eq_zero_or_pos r.length with h0 | h0
    · rw [h0, atR, if_pos rfl]
      rw [h0] at gc
      rw [gc]
    · rw [hx h0]
      obtain ⟨m, hm⟩ : ∃ m, r.length = m + 1 := ⟨r.length - 1, by omega⟩
      rw [hm, atR_succ, atR_succ, ga m (by omega)]

variable {P : List Int}
/-- A walk of a table, channel by channel. -/
theorem walk_cases {z a : Int} {f : Nat} {l : List Int} (h : walkF W H L P z (f + 1) a = some l) :
    (l = [] ∧ a = z) ∨ ∃ c t, l = c :: t ∧ c = 4 * a + tabG (countG W H) P a z ∧ hasChG W H L c = true ∧ c / 4 = a ∧ c % 4 = tabG (countG W H) P a z ∧ walkF W H L P z f (endC W H c) = some t := by
  rw [walkF] at h
  split at h
  · split at h
    · rename_i e
      cases h
      exact .inl ⟨rfl, e⟩
    · cases h
  · split at h
    · rename_i h4 hs
      rw [Option.map_eq_some_iff] at h
      obtain ⟨t, ht, rfl⟩ := h
      obtain ⟨p0, p3, hc⟩ := steps_next hs
      have e1 : (4 * a + tabG (countG W H) P a z) / 4 = a := by omega
      have e2 : (4 * a + tabG (countG W H) P a z) % 4 = tabG (countG W H) P a z := by omega
      exact .inr ⟨_, t, rfl, rfl, hc, e1, e2, by rw [endC, e1, e2]; exact ht⟩
    · cases h
theorem walk_det {z : Int} : ∀ (f g : Nat) (a : Int) (l m : List Int), walkF W H L P z f a = some l → walkF W H L P z g a = some m → l = m
  | 0, _, _, _, _, h, _ => by simp [walkF] at h
  | _ + 1, 0, _, _, _, _, h => by simp [walkF] at h
  | f + 1, g + 1, a, l, m, h1, h2 => by
    rw [walkF] at h1 h2
    split at h1
    · rename_i h4
      rw [if_pos h4] at h2
      split at h1
      · rename_i e
        rw [if_pos e] at h2
        cases h1; cases h2; rfl
      · cases h1
    · rename_i h4
      rw [if_neg h4] at h2
      split at h1
      · rename_i hs
        rw [if_pos hs] at h2
        rw [Option.map_eq_some_iff] at h1 h2
        obtain ⟨t, ht, rfl⟩ := h1
        obtain ⟨u, hu, rfl⟩ := h2
        rw [walk_det f g _ t u ht hu]
      · cases h1
/-- What lies behind the first j channels of a walk is the walk from where they lead. -/
theorem walk_drop {z : Int} : ∀ (f : Nat) (a : Int) (l : List Int), walkF W H L P z f a = some l → ∀ j, j ≤ l.length →
    ∃ g, walkF W H L P z g (if j = 0 then a else endC W H (l.getD (j - 1) 0)) = some (l.drop j)
  | 0, _, _, h, _, _ => by simp [walkF] at h
  | f + 1, a, l, h, 0, _ => ⟨f + 1, by rw [if_pos rfl]; exact h⟩
  | f + 1, a, l, h, j + 1, hj => by
    rcases walk_cases h with ⟨rfl, _⟩ | ⟨c, t, rfl, _, _, _, _, ht⟩
    · simp at hj
    · obtain ⟨g, hg⟩ := walk_drop f _ t ht j (by simpa using hj)
      refine ⟨g, ?_⟩
      rw [if_neg (by omega), Nat.add_sub_cancel, List.drop_succ_cons]
      cases j with
      | zero => rw [if_pos rfl] at hg; exact hg
      | succ j => rw [if_neg (by omega), Nat.add_sub_cancel] at hg; rw [List.getD_cons_succ]; exact hg
theorem walk_links {z : Int} : ∀ (f : Nat) (a : Int) (l : List Int), walkF W H L P z f a = some l → linksTo W H L l l.length ∧ (0 < l.length → l.getD 0 0 / 4 = a ∧ l.getD 0 0 % 4 = tabG (countG W H) P a z ∧ atR W H l l.length = z) ∧ (l = [] → a = z)
  | 0, _, _, h => by simp [walkF] at h
  | f + 1, a, l, h => by
    rcases walk_cases h with ⟨rfl, e⟩ | ⟨c, t, rfl, hc, hh, h4, h5, ht⟩
    · exact ⟨links_zero, fun h => absurd h (by simp), fun _ => e⟩
    · obtain ⟨h1, h2, h3⟩ := walk_links f _ t ht
      refine ⟨fun j hj => ?_, fun _ => ⟨h4, h5, ?_⟩, fun e => by cases e⟩
      · cases j with
        | zero => exact link_first rfl hh
        | succ j =>
          have hj' : j < t.length := by simpa using hj
          have q := h1 j hj'
          have qh := link_has q
          rw [link_next (c := t.getD j 0) (x := endC W H ((c :: t).getD j 0)) (by rw [List.getD_cons_succ]) rfl qh]
          refine decide_eq_true ?_
          cases j with
          | zero => exact (h2 (by omega)).1
          | succ j =>
            rw [link_at rfl qh, atR_succ] at q
            rw [List.getD_cons_succ]
            exact of_decide_eq_true q
      · rw [List.length_cons, atR_succ]
        cases t with
        | nil => exact h3 rfl
        | cons d u =>
          have q := (h2 (by simp)).2.2
          rw [List.length_cons, atR_succ] at q
          rw [List.length_cons, List.getD_cons_succ]
          exact q
theorem walk_free {z a : Int} {f : Nat} {l : List Int} (h : walkF W H L P z f a = some l) (hm : meshG W H L = true) (h0 : 0 < l.length) : routeG W H L l = true ∧ freeG (nodesG W H L l) = true := by
  obtain ⟨h1, h2, _⟩ := walk_links f a l h
  have hr := route_yes hm h0 h1
  refine ⟨hr, ?_⟩
  have hlen := nodes_len hr
  rw [free_yes, hlen]
  · simp
  · intro i hi
    rw [hlen] at hi
    refine free_at (b := false) rfl (inG_no fun j hj => ?_)
    rw [List.length_take, hlen] at hj
    have hji : j < i := by omega
    rw [List.getD_eq_getElem?_getD, List.getElem?_take_of_lt hji, ← List.getD_eq_getElem?_getD, nodes_at hr (by omega), nodes_at hr (by omega)]
    intro e
    have hat : ∀ k, k ≤ l.length → (if k = 0 then a else endC W H (l.getD (k - 1) 0)) = atR W H l k := fun k hk => by
      unfold atR
      split
      · exact (h2 h0).1.symm
      · rfl
    obtain ⟨g1, w1⟩ := walk_drop f a l h j (by omega)
    obtain ⟨g2, w2⟩ := walk_drop f a l h i (by omega)
    rw [hat j (by omega), e] at w1
    rw [hat i (by omega)] at w2
    have := congrArg List.length (walk_det g1 g2 _ _ _ w1 w2)
    rw [List.length_drop, List.length_drop] at this
    omega
end
end Go.Proofs.Ytecaehkckamhkaa
end

section
namespace Go.Proofs.Ytecaehkckamhkaa
open Go.ChangeShapes Go.WideShapes Go.ChangeAt Go.RowKit
set_option linter.unusedVariables false

/-- The numbers below k that a set has, ascending. -/
def setL (f : Nat → Bool) (k : Nat) : List Int := ((List.range k).filter f).map fun j : Nat => (j : Int)
theorem setL_zero (f : Nat → Bool) : setL f 0 = [] := rfl
theorem setL_yes {f : Nat → Bool} {k : Nat} (h : f k = true) : setL f (k + 1) = setL f k ++ [(k : Int)] := by
  simp [setL, List.range_succ, List.filter_append, h]
theorem setL_no {f : Nat → Bool} {k : Nat} (h : f k = false) : setL f (k + 1) = setL f k := by
  simp [setL, List.range_succ, List.filter_append, h]
theorem setL_len (f : Nat → Bool) (k : Nat) : (setL f k).length ≤ k := by
  unfold setL
  rw [List.length_map]
  exact Nat.le_trans (List.length_filter_le _ _) (by simp)
theorem setL_congr {f g : Nat → Bool} {k : Nat} (h : ∀ x, x < k → f x = g x) : setL f k = setL g k := by
  unfold setL
  congr 1
  exact List.filter_congr fun x hx => h x (List.mem_range.1 hx)
theorem setL_mem {f : Nat → Bool} {k : Nat} {x : Int} : x ∈ setL f k ↔ ∃ j : Nat, j < k ∧ x = (j : Int) ∧ f j = true := by
  unfold setL
  simp only [List.mem_map, List.mem_filter, List.mem_range]
  exact ⟨fun ⟨j, ⟨h1, h2⟩, h3⟩ => ⟨j, h1, h3.symm, h2⟩, fun ⟨j, h1, h2, h3⟩ => ⟨j, ⟨h1, h3⟩, h2.symm⟩⟩
theorem setL_sorted (f : Nat → Bool) (k : Nat) : (setL f k).Pairwise (fun a b => a < b) := by
  induction k with
  | zero => exact List.Pairwise.nil
  | succ k ih =>
    cases h : f k with
    | false => rw [setL_no h]; exact ih
    | true =>
      rw [setL_yes h]
      refine List.pairwise_append.2 ⟨ih, List.pairwise_singleton _ _, fun a ha b hb => ?_⟩
      obtain ⟨j, hj, rfl, _⟩ := setL_mem.1 ha
      simp at hb
      omega

/-- A set with one more turn. -/
def withT (f : Nat → Bool) (p q : Int) (x : Nat) : Bool := f x || decide (p ≠ q ∧ 4 * p + q = (x : Int))
theorem withT_same {f : Nat → Bool} {p q : Int} (h : p = q) : withT f p q = f := by
  funext x; simp [withT, h]
/-- The turns from one port to the first k of some ports. -/
def rowT (p : Int) (T : List Int) (k : Nat) (x : Nat) : Bool := (List.range k).any fun j => decide (p ≠ T.getD j 0 ∧ 4 * p + T.getD j 0 = (x : Int))
/-- The turns from the first k of some ports to others. -/
def crossT (F T : List Int) (k : Nat) (x : Nat) : Bool := (List.range k).any fun i => rowT (F.getD i 0) T T.length x
def orT (f g : Nat → Bool) (x : Nat) : Bool := f x || g x
theorem orT_none (f : Nat → Bool) {g : Nat → Bool} (h : ∀ x, g x = false) : orT f g = f := by funext x; simp [orT, h]
theorem row_zero (p : Int) (T : List Int) (x : Nat) : rowT p T 0 x = false := rfl
theorem cross_zero (F T : List Int) (x : Nat) : crossT F T 0 x = false := rfl
theorem row_next (f : Nat → Bool) (p q : Int) (T : List Int) (k : Nat) (h : T.getD k 0 = q) : withT (orT f (rowT p T k)) p q = orT f (rowT p T (k + 1)) := by
  funext x
  simp only [withT, orT, rowT, List.range_succ, List.any_append, List.any_cons, List.any_nil, Bool.or_false, h, Bool.or_assoc]
theorem cross_next (f : Nat → Bool) (p : Int) (F T : List Int) (k : Nat) (h : F.getD k 0 = p) : orT (orT f (crossT F T k)) (rowT p T T.length) = orT f (crossT F T (k + 1)) := by
  funext x
  simp only [orT, crossT, List.range_succ, List.any_append, List.any_cons, List.any_nil, Bool.or_false, h, Bool.or_assoc]

/-- The turn that a way takes behind its channel j. -/
def hitT (R : List Int) (j : Nat) (x : Nat) : Bool := decide (R.getD j 0 % 4 ≠ R.getD (j + 1) 0 % 4 ∧ 4 * (R.getD j 0 % 4) + R.getD (j + 1) 0 % 4 = (x : Int))
def wayT (R : List Int) (k : Nat) (x : Nat) : Bool := (List.range k).any fun j => hitT R j x
theorem way_zero (R : List Int) (x : Nat) : wayT R 0 x = false := rfl
theorem way_next (f : Nat → Bool) (R : List Int) (k : Nat) (p q : Int) (hp : R.getD k 0 % 4 = p) (hq : R.getD (k + 1) 0 % 4 = q) : withT (orT f (wayT R k)) p q = orT f (wayT R (k + 1)) := by
  funext x
  simp only [withT, orT, wayT, hitT, List.range_succ, List.any_append, List.any_cons, List.any_nil, Bool.or_false, hp, hq, Bool.or_assoc]
variable {W H : Int} {L P : List Int}
/-- The way of the pair of nodes number i. -/
def pairW (W H : Int) (L P : List Int) (i : Nat) : List Int := walkOf W H L P ((i : Int) / countG W H) ((i : Int) % countG W H)
def allT (W H : Int) (L P : List Int) (k : Nat) (x : Nat) : Bool := (List.range k).any fun i => wayT (pairW W H L P i) ((pairW W H L P i).length - 1) x
theorem all_zero (x : Nat) : allT W H L P 0 x = false := rfl
theorem all_next {k : Nat} {R : List Int} (h : pairW W H L P k = R) : orT (allT W H L P k) (wayT R (R.length - 1)) = allT W H L P (k + 1) := by
  funext x
  simp only [orT, allT, List.range_succ, List.any_append, List.any_cons, List.any_nil, Bool.or_false, h]
def turnsG (W H : Int) (L P : List Int) : List Int := if tableG W H L P then setL (allT W H L P (sqG W H)) 16 else []
theorem turnsG_yes (h : tableG W H L P = true) : turnsG W H L P = setL (allT W H L P (sqG W H)) 16 := if_pos h
theorem turnsG_no (h : tableG W H L P = false) : turnsG W H L P = [] := if_neg (by simp [h])
theorem turnsG_len : (turnsG W H L P).length ≤ 16 := by
  unfold turnsG; split
  · exact setL_len _ _
  · simp

/-- The channels of a way are numbers below 64. -/
theorem walkF_range {z : Int} : ∀ (f : Nat) (a : Int) (l : List Int), walkF W H L P z f a = some l → ∀ c ∈ l, 0 ≤ c ∧ c < 64
  | 0, a, l, h => by simp [walkF] at h
  | f + 1, a, l, h => by
    have hcl := countG_le W H
    rcases walk_cases h with ⟨rfl, _⟩ | ⟨c, t, rfl, _, hc, _, _, ht⟩
    · simp
    · intro d hd
      rcases List.mem_cons.1 hd with rfl | hd
      · simp only [hasChG, leadsG, Bool.and_eq_true, decide_eq_true_eq] at hc
        omega
      · exact walkF_range f _ t ht d hd
theorem pairW_range {i j : Nat} (h : j < (pairW W H L P i).length) : 0 ≤ (pairW W H L P i).getD j 0 ∧ (pairW W H L P i).getD j 0 < 64 := by
  unfold pairW walkOf at h ⊢
  cases hw : walkF W H L P ((i : Int) % countG W H) ((countG W H).toNat + 1) ((i : Int) / countG W H) with
  | none => simp [hw] at h
  | some l =>
    simp only [hw, Option.getD_some] at h ⊢
    have he : l.getD j 0 = l[j] := by simp [List.getD, List.getElem?_eq_getElem h]
    rw [he]
    exact walkF_range _ _ _ hw _ (List.getElem_mem h)
theorem pairW_len (i : Nat) : (pairW W H L P i).length ≤ 16 := walkOf_len _ _

/-- The turns of a rule. -/
def ruleL (r : Int) : List Int := if r = 1 then [4, 6, 12, 14] else if r = 2 then [1, 3, 9, 11] else if r = 3 then [1, 9, 12, 13, 14] else if r = 4 then [1, 3, 4, 6, 9, 11, 12, 14] else []
theorem ruleL_len (r : Int) : (ruleL r).length ≤ 16 := by
  unfold ruleL
  (repeat' split) <;> simp
/-- The turns of a rule as the model marks them. -/
def ruleF (r : Int) (x : Nat) : Bool :=
  if r = 1 then decide (x / 4 % 2 ≠ x % 4 % 2) && decide (x / 4 % 2 = 1) else if r = 2 then decide (x / 4 % 2 ≠ x % 4 % 2) && !decide (x / 4 % 2 = 1)
  else if r = 3 then decide (x / 4 = 3) && decide (x % 4 ≠ 3) || !decide (x / 4 % 2 = 1) && decide (x % 4 = 1) else if r = 4 then decide (x / 4 % 2 ≠ x % 4 % 2) else false
theorem rule_set (r : Int) : setL (ruleF r) 16 = ruleL r := by
  by_cases h1 : r = 1
  · subst h1; decide
  by_cases h2 : r = 2
  · subst h2; decide
  by_cases h3 : r = 3
  · subst h3; decide
  by_cases h4 : r = 4
  · subst h4; decide
  have e : ∀ x, ruleF r x = false := fun x => by simp [ruleF, h1, h2, h3, h4]
  have e2 : ruleL r = [] := by simp [ruleL, h1, h2, h3, h4]
  rw [e2, setL, List.filter_eq_nil_iff.2 (fun x _ => by simp [e x])]
  rfl

/-- Is it a turn back? -/
def backT (x : Int) : Bool := decide (0 ≤ x ∧ x ≤ 15) && decide (x % 4 = oppG (x / 4))
/-- A turn's name. -/
def nameT (x : Int) : ByteArray := if decide (0 ≤ x ∧ x ≤ 15) && decide (x / 4 ≠ x % 4) then portB (x / 4) ++ ⟨#[45]⟩ ++ portB (x % 4) else ⟨#[]⟩
theorem portB_size (p : Int) : (portB p).size ≤ 5 := by
  unfold portB
  (repeat' split) <;> decide
def allowsG (W H : Int) (L P T : List Int) : Bool := tableG W H L P && (turnsG W H L P).all fun x => inG T x
end Go.Proofs.Ytecaehkckamhkaa
end

section
namespace Go.Proofs.Ytecaehkckamhkaa
open Go.ChangeShapes Go.WideShapes Go.ChangeAt Go.RowKit Go.Maps
set_option linter.unusedVariables false
set_option maxRecDepth 20000

theorem keyInt : Keyed Try.prog 3 := int_keyed Try.underlying3
theorem wfInt {x : Int} (h0 : 0 ≤ x) (h1 : x ≤ 1000) : (Lit.int .i64 x).wf = true := by
  have e1 : IntKind.i64.min = -9223372036854775808 := by decide
  have e2 : IntKind.i64.max = 9223372036854775807 := by decide
  simp only [Lit.wf, e1, e2, Bool.and_eq_true, decide_eq_true_eq]
  omega
theorem keyOfInt {x : Int} (h0 : 0 ≤ x) (h1 : x ≤ 1000) : keyOf Try.prog 3 (.int .i64 x) = some (.int .i64 x) := keyOf_int_mk Try.underlying3 (wfInt h0 h1)
/-- The numbers below 16 that f has are the keys of D. -/
def KeysAre (D : DataW Unit) (f : Nat → Bool) : Prop := ∀ x : Int, has D (.int .i64 x) = true ↔ ∃ j : Nat, j < 16 ∧ x = (j : Int) ∧ f j = true
theorem keys_perm {w : World} {b n : Nat} {f : Nat → Bool} {D : DataW Unit} (hown : w.ownsMap Try.prog 3 unitElem b n D) (hs : KeysAre D f) : (setL f 16).Perm (intKeys D) := by
  have hsrt := setL_sorted f 16
  have hc : CollectedI D (fun _ => false) (setL f 16) := by
    refine ⟨hsrt.imp (fun {a b} h => by omega), fun x => ?_⟩
    rw [setL_mem, hs x]
    simp
  exact hc.perm hown keyInt Try.underlying3 (fun _ => rfl)
theorem keys_cap {w : World} {b n : Nat} {f : Nat → Bool} {D : DataW Unit} (hown : w.ownsMap Try.prog 3 unitElem b n D) (hs : KeysAre D f) : w.ownsMap Try.prog 3 unitElem b 16 D := by
  have hp := (keys_perm hown hs).length_eq
  have hl := setL_len f 16
  obtain ⟨es, clock, hb, F, hn, rfl⟩ := hown
  refine ⟨es, clock, hb, F, ?_, rfl⟩
  rw [intKeys, List.length_map, length_read] at hp
  omega
/-- Block b is a map whose keys are the numbers below 16 that f has. -/
def SetAt (w : World) (b : Nat) (f : Nat → Bool) : Prop := ∃ D : DataW Unit, w.ownsMap Try.prog 3 unitElem b 16 D ∧ KeysAre D f
theorem SetAt.made (w : World) : SetAt (w.alloc (.map #[] 0)) w.heap.size (fun _ => false) :=
  ⟨.map [], (World.ownsMap_made _ _ _ _).mono (by omega), fun x => ⟨fun h => by simp [has_eq] at h, fun ⟨_, _, _, h⟩ => by cases h⟩⟩
theorem SetAt.kept {w w' : World} {b : Nat} {f : Nat → Bool} {row : Option Nat} (h : SetAt w b f) (hg : w.grownBy w' row) (hne : some b ≠ row) : SetAt w' b f :=
  let ⟨D, h1, h2⟩ := h; ⟨D, h1.kept hg hne, h2⟩
theorem SetAt.none {w w' : World} {b : Nat} {f : Nat → Bool} (h : SetAt w b f) (hg : w.grownBy w' none) : SetAt w' b f := h.kept hg (by simp)
theorem SetAt.lt {w : World} {b : Nat} {f : Nat → Bool} (h : SetAt w b f) : b < w.heap.size := let ⟨D, h1, _⟩ := h; h1.lt
theorem has_with {D : DataW Unit} {f : Nat → Bool} {p q : Int} (hD : IsMap D) (hs : KeysAre D f)
    (hne : p ≠ q) (p0 : 0 ≤ p) (p3 : p ≤ 3) (q0 : 0 ≤ q) (q3 : q ≤ 3) (d : DataW Unit) :
    KeysAre (D.put (.int .i64 (4 * p + q)) d) (withT f p q) := fun x => by
  by_cases hx : x = 4 * p + q
  · subst hx
    rw [has_put_same hD (by trivial)]
    simp only [true_iff]
    exact ⟨(4 * p + q).toNat, by omega, by omega, by simp [withT, hne]; omega⟩
  · rw [has_put_other (by simpa using hx), hs x]
    constructor
    · rintro ⟨j, h1, h2, h3⟩
      exact ⟨j, h1, h2, by simp [withT, h3]⟩
    · rintro ⟨j, h1, h2, h3⟩
      refine ⟨j, h1, h2, ?_⟩
      simp only [withT, Bool.or_eq_true, decide_eq_true_eq] at h3
      rcases h3 with h3 | ⟨_, h3⟩
      · exact h3
      · omega

theorem implAdd (b : Nat) (f : Nat → Bool) (p q : Int) (p0 : 0 ≤ p) (p3 : p ≤ 3) (q0 : 0 ≤ q) (q3 : q ≤ 3) (w : World) (h : SetAt w b f) :
    Calls Try.prog 87 #[.map (some b), .int .i64 p, .int .i64 q] w fun e w' => e = .returned (.tuple #[]) ∧ SetAt w' b (withT f p q) ∧ w.grownBy w' (some b) := by
  obtain ⟨D, hown, hs⟩ := h
  by_cases hpq : p = q
  · have HT := Lib.hid (show SetAt w b (withT f p q) by rw [withT_same hpq]; exact ⟨D, hown, hs⟩)
    clear hown hs
    subst hpq
    go_enter Try.func87, Try.ntmps87
    go_wp2_with fail
    go_end0
    exact ⟨rfl, HT.out, gb_of_none (gb_refl _ _) _⟩
  · have HK := Lib.hid (keyOfInt (x := 4 * p + q) (by omega) (by omega))
    have HS := Lib.hid (fun d => has_with hown.isMap hs hpq p0 p3 q0 q3 d)
    have HO := Lib.hid hown
    clear hown hs
    go_enter Try.func87, Try.ntmps87
    go_wp2_with (at_mapUpdate; refine wpList_mapUpdate_own _ rfl _ _ _ 107 rfl 3 129 keyInt Try.underlying107 (unitElem (H := Unit)) b 16 D rfl HO.out (by unfold maxLen; omega) _ _ _ rfl rfl HK.out _ [] unitElem_mk ?_; intro w1 hown1 hg1; have HG := Lib.hid hg1; have HO1 := Lib.hid hown1; clear hg1 hown1)
    go_end0
    exact ⟨rfl, ⟨_, keys_cap HO1.out (HS.out _), HS.out _⟩, HG.out⟩

/-- The numbers in the block B are T. -/
def RowAt (w : World) (B : Nat) (T : List Int) : Prop := ∀ j, j < T.length → w.cell? ⟨B, j, none⟩ = some (.int .i64 (T.getD j 0))
theorem RowAt.kept {w w' : World} {B b : Nat} {T : List Int} (h : RowAt w B T) (hB : B < w.heap.size) (hg : w.grownBy w' (some b)) (hne : B ≠ b) : RowAt w' B T := fun j hj => by
  rw [World.cell?_of_block (hg.block B hB (by simpa using hne)), h j hj]
theorem RowAt.none {w w' : World} {B : Nat} {T : List Int} (h : RowAt w B T) (hB : B < w.heap.size) (hg : w.grownBy w' none) : RowAt w' B T := fun j hj => by
  rw [World.cell?_of_block (hg.block B hB (by simp)), h j hj]
def Ports (T : List Int) : Prop := T.length ≤ 4 ∧ ∀ j, j < T.length → 0 ≤ T.getD j 0 ∧ T.getD j 0 ≤ 3
def PutAt (b : Nat) (f : Nat → Bool) (w wr : World) : Prop := SetAt wr b f ∧ w.grownBy wr (some b)

theorem implAddAll (b : Nat) (f : Nat → Bool) (F T : List Int) (B1 B2 c1 c2 : Nat) (hF : Ports F) (hT : Ports T) (w : World) (h : SetAt w b f)
    (h1 : RowAt w B1 F) (h2 : RowAt w B2 T) (l1 : B1 < w.heap.size) (l2 : B2 < w.heap.size) (n1 : B1 ≠ b) (n2 : B2 ≠ b) :
    Calls Try.prog 89 #[.map (some b), .slice (some ⟨B1, 0, none⟩) F.length c1, .slice (some ⟨B2, 0, none⟩) T.length c2] w fun e w' => e = .returned (.tuple #[]) ∧ PutAt b (orT f (crossT F T F.length)) w w' := by
  obtain ⟨N1, hN1⟩ : ∃ k, F.length = k := ⟨_, rfl⟩
  obtain ⟨N2, hN2⟩ : ∃ k, T.length = k := ⟨_, rfl⟩
  obtain ⟨f4, hf⟩ := hF
  obtain ⟨t4, ht⟩ := hT
  have HS := Lib.hid (show PutAt b (orT f (crossT F T 0)) w w by rw [orT_none f (cross_zero F T)]; exact ⟨h, gb_of_none (gb_refl _ _) _⟩)
  have H1 := Lib.hid h1
  have H2 := Lib.hid h2
  have HF := Lib.hid hf
  have HT := Lib.hid ht
  clear h h1 h2 hf ht
  rw [hN1, hN2]
  rw [hN1] at f4
  rw [hN2] at t4
  have E1 := Lib.hid hN1
  have E2 := Lib.hid hN2
  clear hN1 hN2
  go_enter Try.func89, Try.ntmps89
  go_wp2_with fail
  go_loopw [12] (fun i wr => ∃ k : Nat, i = .int .i64 (k : Int) ∧ k ≤ N1 ∧ PutAt b (orT f (crossT F T k)) w wr) (fun i _ => N1 - (Go.RowKit.intOf i).toNat)
  case atStart => exact ⟨0, rfl, by omega, HS.out⟩
  case round =>
    obtain ⟨k, rfl, hk, hp⟩ := hrel
    have HP := Lib.hid hp
    clear hp
    by_cases hlt : k < N1
    · obtain ⟨p, hp⟩ : ∃ p, F.getD k 0 = p := ⟨_, rfl⟩
      obtain ⟨p0, p3⟩ := HF.out k (by rw [E1.out]; exact hlt)
      have c1 := (H1.out.kept l1 HP.out.2 n1) k (by rw [E1.out]; exact hlt)
      rw [hp] at p0 p3 c1
      have HPK := Lib.hid hp
      clear hp
      go_wp2_with fail
      go_loopw [18] (fun i ws => ∃ j : Nat, i = .int .i64 (j : Int) ∧ j ≤ N2 ∧ PutAt b (orT (orT f (crossT F T k)) (rowT p T j)) w ws) (fun i _ => N2 - (Go.RowKit.intOf i).toNat)
      case atStart => exact ⟨0, rfl, by omega, by rw [orT_none _ (row_zero p T)]; exact HP.out⟩
      case round =>
        obtain ⟨j, rfl, hj, hp2⟩ := hrel
        have HP2 := Lib.hid hp2
        clear hp2
        by_cases hlj : j < N2
        · obtain ⟨q, hq⟩ : ∃ q, T.getD j 0 = q := ⟨_, rfl⟩
          obtain ⟨q0, q3⟩ := HT.out j (by rw [E2.out]; exact hlj)
          have c2 := (H2.out.kept l2 HP2.out.2 n2) j (by rw [E2.out]; exact hlj)
          rw [hq] at q0 q3 c2
          have HA := Lib.hid (fun w h => implAdd b (orT (orT f (crossT F T k)) (rowT p T j)) p q p0 p3 q0 q3 w h)
          have HR := Lib.hid (row_next (orT f (crossT F T k)) p q T j hq)
          clear hq
          go_wp2_with fail
          refine (HA.out _ HP2.out.1).mono ?_
          rintro e w2 ⟨rfl, hs2, hg2⟩
          have HP3 := Lib.hid (show PutAt b (orT (orT f (crossT F T k)) (rowT p T (j + 1))) w w2 from ⟨HR.out ▸ hs2, HP2.out.2.trans hg2⟩)
          clear hs2 hg2 c2
          go_wp2_with fail
          go_roundw
          case rel => exact ⟨j + 1, rfl, by omega, HP3.out⟩
          case measure => simp [Go.RowKit.intOf]; omega
        · obtain rfl : j = N2 := by omega
          have HP3 := Lib.hid (show PutAt b (orT f (crossT F T (k + 1))) w _ by rw [← cross_next f p F T k HPK.out, E2.out]; exact HP2.out)
          go_wp2_with fail
          go_roundw
          case rel => exact ⟨k + 1, rfl, by omega, HP3.out⟩
          case measure => simp [Go.RowKit.intOf]; omega
    · obtain rfl : k = N1 := by omega
      go_wp2_with fail
      go_end0
      exact ⟨rfl, HP.out⟩
end Go.Proofs.Ytecaehkckamhkaa
end

section
namespace Go.Proofs
open Go.Shelf
def Try.keysA_ren : Go.Shelf.Ren := ⟨fun | 7 => 112 | 10 => 122 | n => n, fun | 23 => 107 | 26 => 3 | 3 => 129 | 28 => 132 | 0 => 0 | 27 => 131 | 33 => 68 | 4 => 4 | n => n, fun | n => n⟩
theorem Try.keysA : Go.Proofs.SlLaysZI.n7 Try.prog Try.keysA_ren := {
  mixed := by kernel_rfl
  f7 := ⟨Try.f112.name, by decide, Try.func112.trans (congrArg some (by kernel_rfl))⟩
  f10 := ⟨Try.f122.name, by decide, Try.func122.trans (congrArg some (by kernel_rfl))⟩
  t0 := Try.underlying0
  a0 := Try.isAgg0
  z0 := Try.sizeOf0
  v0 := Try.zeroValue0
  t4 := Try.underlying4
  a4 := Try.isAgg4
  z4 := Try.sizeOf4
  v4 := Try.zeroValue4
  t23 := Try.underlying107
  a23 := Try.isAgg107
  z23 := Try.sizeOf107
  v23 := Try.zeroValue107
  t26 := Try.underlying3
  a26 := Try.isAgg3
  z26 := Try.sizeOf3
  v26 := Try.zeroValue3
  t27 := Try.underlying131
  a27 := Try.isAgg131
  z27 := Try.sizeOf131
  v27 := Try.zeroValue131
  t28 := Try.underlying132
  a28 := Try.isAgg132
  z28 := Try.sizeOf132
  v28 := Try.zeroValue132
  t33 := Try.underlying68
  a33 := Try.isAgg68
  z33 := Try.sizeOf68
  v33 := Try.zeroValue68 }
def Try.sortedA_ren : Go.Shelf.Ren := ⟨fun | 6 => 111 | 8 => 120 | 9 => 121 | 11 => 128 | 13 => 130 | 12 => 129 | 23 => 141 | 24 => 142 | 14 => 132 | 15 => 133 | 16 => 134 | 17 => 135 | 18 => 136 | 19 => 137 | 20 => 138 | 21 => 139 | 22 => 140 | 25 => 143 | 26 => 144 | 27 => 145 | 28 => 146 | 29 => 147 | 30 => 148 | 31 => 149 | n => n, fun | 26 => 3 | 28 => 132 | 24 => 24 | 0 => 0 | 3 => 3 | 37 => 135 | 48 => 150 | 50 => 152 | 4 => 4 | 40 => 143 | 39 => 142 | 45 => 147 | 5 => 5 | 9 => 9 | 51 => 153 | 55 => 157 | 57 => 159 | 58 => 98 | 33 => 68 | n => n, fun | n => n⟩
theorem Try.sortedA : Go.Proofs.SlLaysZI.n6 Try.prog Try.sortedA_ren := {
  mixed := by kernel_rfl
  f6 := ⟨Try.f111.name, by decide, Try.func111.trans (congrArg some (by kernel_rfl))⟩
  f8 := ⟨Try.f120.name, by decide, Try.func120.trans (congrArg some (by kernel_rfl))⟩
  f11 := ⟨Try.f128.name, by decide, Try.func128.trans (congrArg some (by kernel_rfl))⟩
  t0 := Try.underlying0
  a0 := Try.isAgg0
  z0 := Try.sizeOf0
  v0 := Try.zeroValue0
  t24 := Try.underlying24
  a24 := Try.isAgg24
  z24 := Try.sizeOf24
  v24 := Try.zeroValue24
  t26 := Try.underlying3
  a26 := Try.isAgg3
  z26 := Try.sizeOf3
  v26 := Try.zeroValue3
  t28 := Try.underlying132
  a28 := Try.isAgg132
  z28 := Try.sizeOf132
  v28 := Try.zeroValue132
  i26 := by kernel_rfl }
def Try.sortA_ren : Go.Shelf.Ren := ⟨fun | 5 => 121 | 8 => 130 | 7 => 129 | 19 => 141 | 20 => 142 | 10 => 132 | 11 => 133 | 12 => 134 | 13 => 135 | 14 => 136 | 15 => 137 | 16 => 138 | 17 => 139 | 18 => 140 | 30 => 143 | 31 => 144 | 32 => 145 | 33 => 146 | 34 => 147 | 35 => 148 | 40 => 149 | n => n, fun | 23 => 24 | 25 => 3 | 3 => 3 | 32 => 135 | 22 => 24 | 0 => 0 | 44 => 150 | 46 => 152 | 4 => 4 | 36 => 143 | 35 => 142 | 41 => 147 | 5 => 5 | 9 => 9 | 53 => 153 | 57 => 157 | 63 => 159 | 64 => 98 | n => n, fun | n => n⟩
theorem Try.sortA : Go.Proofs.SlLaysM.n5 Try.prog Try.sortA_ren := {
  mixed := by kernel_rfl
  f5 := ⟨Try.f121.name, by decide, Try.func121.trans (congrArg some (by kernel_rfl))⟩
  f7 := ⟨Try.f129.name, by decide, Try.func129.trans (congrArg some (by kernel_rfl))⟩
  f8 := Try.func130.trans (congrArg some (by kernel_rfl))
  f10 := ⟨Try.f132.name, by decide, Try.func132.trans (congrArg some (by kernel_rfl))⟩
  f11 := ⟨Try.f133.name, by decide, Try.func133.trans (congrArg some (by kernel_rfl))⟩
  f12 := ⟨Try.f134.name, by decide, Try.func134.trans (congrArg some (by kernel_rfl))⟩
  f13 := ⟨Try.f135.name, by decide, Try.func135.trans (congrArg some (by kernel_rfl))⟩
  f14 := ⟨Try.f136.name, by decide, Try.func136.trans (congrArg some (by kernel_rfl))⟩
  f15 := ⟨Try.f137.name, by decide, Try.func137.trans (congrArg some (by kernel_rfl))⟩
  f16 := ⟨Try.f138.name, by decide, Try.func138.trans (congrArg some (by kernel_rfl))⟩
  f17 := ⟨Try.f139.name, by decide, Try.func139.trans (congrArg some (by kernel_rfl))⟩
  f18 := ⟨Try.f140.name, by decide, Try.func140.trans (congrArg some (by kernel_rfl))⟩
  f19 := Try.func141.trans (congrArg some (by kernel_rfl))
  f20 := Try.func142.trans (congrArg some (by kernel_rfl))
  f30 := ⟨Try.f143.name, by decide, Try.func143.trans (congrArg some (by kernel_rfl))⟩
  f31 := Try.func144.trans (congrArg some (by kernel_rfl))
  f32 := Try.func145.trans (congrArg some (by kernel_rfl))
  f33 := ⟨Try.f146.name, by decide, Try.func146.trans (congrArg some (by kernel_rfl))⟩
  f34 := ⟨Try.f147.name, by decide, Try.func147.trans (congrArg some (by kernel_rfl))⟩
  f35 := ⟨Try.f148.name, by decide, Try.func148.trans (congrArg some (by kernel_rfl))⟩
  f40 := ⟨Try.f149.name, by decide, Try.func149.trans (congrArg some (by kernel_rfl))⟩
  t0 := Try.underlying0
  a0 := Try.isAgg0
  z0 := Try.sizeOf0
  v0 := Try.zeroValue0
  t3 := Try.underlying3
  a3 := Try.isAgg3
  z3 := Try.sizeOf3
  v3 := Try.zeroValue3
  t4 := Try.underlying4
  a4 := Try.isAgg4
  z4 := Try.sizeOf4
  v4 := Try.zeroValue4
  t5 := Try.underlying5
  a5 := Try.isAgg5
  z5 := Try.sizeOf5
  v5 := Try.zeroValue5
  t9 := Try.underlying9
  a9 := Try.isAgg9
  z9 := Try.sizeOf9
  v9 := Try.zeroValue9
  t22 := Try.underlying24
  a22 := Try.isAgg24
  z22 := Try.sizeOf24
  v22 := Try.zeroValue24
  t23 := Try.underlying24
  a23 := Try.isAgg24
  z23 := Try.sizeOf24
  v23 := Try.zeroValue24
  t25 := Try.underlying3
  a25 := Try.isAgg3
  z25 := Try.sizeOf3
  v25 := Try.zeroValue3
  t32 := Try.underlying135
  a32 := Try.isAgg135
  z32 := Try.sizeOf135
  v32 := Try.zeroValue135
  t35 := Try.underlying142
  a35 := Try.isAgg142
  z35 := Try.sizeOf142
  v35 := Try.zeroValue142
  t36 := Try.underlying143
  a36 := Try.isAgg143
  z36 := Try.sizeOf143
  v36 := Try.zeroValue143
  t41 := Try.underlying147
  a41 := Try.isAgg147
  z41 := Try.sizeOf147
  v41 := Try.zeroValue147
  t44 := Try.underlying150
  a44 := Try.isAgg150
  z44 := Try.sizeOf150
  v44 := Try.zeroValue150
  t46 := Try.underlying152
  a46 := Try.isAgg152
  z46 := Try.sizeOf152
  v46 := Try.zeroValue152
  t53 := Try.underlying153
  a53 := Try.isAgg153
  z53 := Try.sizeOf153
  v53 := Try.zeroValue153
  t57 := Try.underlying157
  a57 := Try.isAgg157
  z57 := Try.sizeOf157
  v57 := Try.zeroValue157
  t63 := Try.underlying159
  a63 := Try.isAgg159
  z63 := Try.sizeOf159
  v63 := Try.zeroValue159
  t64 := Try.underlying98
  a64 := Try.isAgg98
  z64 := Try.sizeOf98
  v64 := Try.zeroValue98 }
end Go.Proofs
end

section
namespace Go.Proofs.Ytecaehkckamhkaa
open Go.ChangeShapes Go.WideShapes Go.ChangeAt Go.RowKit Go.Maps Go.Sort Go.Shelf
set_option linter.unusedVariables false
set_option maxRecDepth 20000

theorem sortsK (m : Nat) : AnyZI.SortsIn Try.prog Try.sortedA_ren Fence.wide m :=
  ⟨fun blk off cap ss W hH hblk hsz => callsIn_wide.2 (AnyM.slices_Sort_int Try.sortA blk off cap ss W hH hblk hsz),
   fun p cap W => callsIn_wide.2 (AnyM.slices_Sort_int_none Try.sortA p cap W)⟩

/-- The keys of a set, sorted, are its numbers ascending. -/
theorem set_sorted {w : World} {b n : Nat} {f : Nat → Bool} {D : DataW Unit} (hown : w.ownsMap Try.prog 3 unitElem b n D) (hs : KeysAre D f) {ss : List Int} (hp : ss.Perm (intKeys D)) :
    ss.mergeSort (fun x y => decide (x ≤ y)) = setL f 16 := by
  rw [mergeSort_of_perm_i (hp.trans (keys_perm hown hs).symm)]
  exact List.mergeSort_of_pairwise ((setL_sorted f 16).imp (fun {a b} h => by simp; omega))

set_option maxHeartbeats 1000000 in
theorem implAscending (b : Nat) (f : Nat → Bool) (w : World) (h : SetAt w b f) :
    Calls Try.prog 88 #[.map (some b)] w (NewI (setL f 16) w) := by
  obtain ⟨D0, hown, hs⟩ := h
  have hsz := hown.size_le
  have hmax : Maps.size D0 ≤ maxLen := by unfold maxLen; omega
  have hbytes : Maps.size D0 * 8 ≤ 140737488355328 := by omega
  refine (callsIn_wide (n := 6)).1 ?_
  have hbl := hown.lt
  have hseq : SeqGives Fence.wide 2 Try.prog 122 #[.pointer (some ⟨w.heap.size, 0, none⟩)] encZ (fun ss => ss.Perm (intKeys D0)) (Maps.size D0) (w.alloc (.cells #[.map (some b)] 107)) :=
    AnyZI.keys_gives (ρ := Try.keysA_ren) { Try.keysA with } Fence.wide _ trivial rfl (by omega) w.heap.size b 16 D0 _ (by simp) (by simp) (by
      obtain ⟨es, clock, hb, Ft, hs, hD⟩ := hown
      exact ⟨es, clock, (Below.heap_alloc _ _ b hbl).trans hb, Ft, hs, hD⟩)
  have cK : ∀ mb W, CallsIn Fence.wide 5 Try.prog 112 #[.map mb] W fun e w' => e = .returned (.func (.func 122) #[] #[.pointer (some ⟨W.heap.size, 0, none⟩)]) ∧ w' = W.alloc (.cells #[.map mb] 107) := fun mb W => AnyZI.keys_in Try.keysA Fence.wide 5 trivial rfl mb W
  have cS := AnyZI.sorted_in Try.sortedA Fence.wide 5 trivial trivial trivial trivial rfl (by omega) (sortsK _) (enters_of Try.func121 (by kernel_rfl) rfl) 122 #[.pointer (some ⟨w.heap.size, 0, none⟩)] trivial (enters_of Try.func122 (by kernel_rfl) rfl) _ _ hmax hbytes _ hseq
  change CallsIn _ _ Try.prog 111 _ _ _ at cS
  have hfK : Fence.wide.fn 112 := trivial
  have hfS : Fence.wide.fn 111 := trivial
  have HO := Lib.hid (fun ss h => set_sorted hown hs (ss := ss) h)
  refine callsIn_of_wp Try.func88 rfl trivial ?_ rfl
  simp only [Try.ntmps88, List.size_toArray, List.length_cons, List.length_nil, Nat.reduceAdd, Nat.reduceSub, Array.replicate_succ, Array.replicate_zero, List.push_toArray, List.append_toArray, List.nil_append, List.cons_append]
  gi_wp2_with (first
    | (gi_at_call 112; refine (cK _ _).mono ?_; rintro e w' ⟨rfl, rfl⟩)
    | (gi_at_call 111; refine cS.mono ?_; rintro e w' ⟨v, ss, rfl, hS, hrow, hnil, hb⟩))
  go_ret
  have hl : (setL f 16).length = ss.length := by rw [← HO.out ss hS]; exact (List.length_mergeSort ss)
  rw [HO.out ss hS] at hrow
  refine ⟨v, rfl, ?_, ((Below.refl _ w).alloc (Nat.le_refl _) _).trans (hb.mono (by simp))⟩
  rw [hl]
  exact ownsRow_base_a hrow (by simp)
end Go.Proofs.Ytecaehkckamhkaa
end

section
namespace Go.Proofs.Ytecaehkckamhkaa
open Go.ChangeShapes Go.WideShapes Go.ChangeAt Go.RowKit
set_option linter.unusedVariables false

/-- A mesh as the cells of a block. -/
def meshC (W H : Int) (A : Option Addr) (n cap : Nat) : Array Value := #[.int .i64 W, .int .i64 H, .slice A n cap]
def MeshAt (W H : Int) (L : List Int) (A : Option Addr) (n cap : Nat) (w : World) (k : Nat) (wr : World) : Prop :=
  goodTo W H L k ∧ (w.alloc (.cells (meshC W H A n cap) 34)).grownBy wr none
end Go.Proofs.Ytecaehkckamhkaa
end

section
namespace Go.Proofs.Ytecaehkckamhkaa
open Go.ChangeShapes Go.WideShapes Go.ChangeAt Go.RowKit
set_option linter.unusedVariables false

/-- Numbers as the cells of a block. -/
def cellsX (X : List Int) : Array Value := (intsV X).toArray
theorem cellsX_size (X : List Int) : (cellsX X).size = X.length := by simp [cellsX, intsV_length]
theorem cellsX_at {X : List Int} {i : Nat} {x : Int} (hi : i < X.length) (h : X.getD i 0 = x) : (cellsX X)[i]? = some (.int .i64 x) := by
  rw [List.getD_eq_getElem?_getD, List.getElem?_eq_getElem hi] at h
  simp only [Option.getD_some] at h
  simp [cellsX, intsV, List.getElem?_eq_getElem hi, h]
theorem cellsX_set (X : List Int) (i : Nat) (x : Int) : (cellsX X).setIfInBounds i (.int .i64 x) = cellsX (X.set i x) := by
  simp [cellsX, intsV_set]
theorem cellsX_one (X : List Int) : (cellsX X).all (·.oneCell') = true := by
  rw [Array.all_eq_true_iff_forall_mem]
  intro v hv
  simp only [cellsX, intsV, List.mem_toArray, List.mem_map] at hv
  obtain ⟨x, _, rfl⟩ := hv
  rfl
theorem zero_cells : Try.zeroCells85 = cellsX zerosX := by kernel_rfl
theorem square_info : (Try.prog.info? 85).map (·.size) = some 256 := by kernel_rfl

section
variable {w : World} {g : Nat} {X Y : List Int}
theorem gb_setRow {w : World} {g : Nat} {old cs : Array Value} {t : TypeId} (h : Blk w g t old) : Blk (w.setRow g cs) g t cs ∧ w.grownBy (w.setRow g cs) (some g) := by
  refine ⟨setRow_heap w g old cs t (0, 0) h, rfl, rfl, rfl, ?_, fun i hi hne => ?_⟩
  · simp [World.setRow]
  · have hne' : g ≠ i := fun e => hne (by rw [e])
    simp [World.setRow, Array.getElem?_modify, hne']
theorem load_square (hb : Blk w g 85 (cellsX X)) (hl : X.length = 256) : (loadVar 85 ⟨g, 0, none⟩).run Try.prog w = .ok (.agg (cellsX X)) w :=
  run_loadVar_row w g _ _ (cellsX X) (0, 0) _ hb Try.underlying85 rfl (by rw [cellsX_size, hl]; exact square_info)
theorem store_square (hb : Blk w g 85 (cellsX X)) (hl : X.length = 256) (hm : Y.length = 256) : (storeVar 85 ⟨g, 0, none⟩ (.agg (cellsX Y))).run Try.prog w = .ok () (w.setRow g (cellsX Y)) :=
  run_storeVar_row w g _ _ (cellsX X) (cellsX Y) hb (by rw [cellsX_size, hm]; exact square_info) (by rw [cellsX_size, cellsX_size, hl, hm]) (cellsX_one Y)
end

theorem wpList_loadX {ops : Array Oper} {rest : List Oper} {op : Oper} {a : Act} {w : World} {Q : Exit → Act → World → Prop} (hgd : op.guard = none) (x : Operand) (ho : op.op = .load 85 x)
    (g : Nat) (hx : a.eval x = .pointer (some ⟨g, 0, none⟩)) (X : List Int) (hb : Blk w g 85 (cellsX X)) (hl : X.length = 256)
    (h : wpList Try.prog ops Q rest (a.put op.dst (.agg (cellsX X))) w) : wpList Try.prog ops Q (op :: rest) a w :=
  wpList_plain hgd fun _ hK => by
    unfold Oper.wp execOp
    simp only [ho, hx, Instr.loadAt, Instr.sureAddr, Sem.run_bind, Sem.run_pure, Result.andThen_ok, load_square hb hl]
    exact hK _ _ h
theorem wpList_storeX {ops : Array Oper} {rest : List Oper} {op : Oper} {a : Act} {w : World} {Q : Exit → Act → World → Prop} (hgd : op.guard = none) (x y : Operand) (ho : op.op = .store 85 x y)
    (g : Nat) (X Y : List Int) (hx : a.eval x = .pointer (some ⟨g, 0, none⟩)) (hy : a.eval y = .agg (cellsX Y)) (hb : Blk w g 85 (cellsX X)) (hl : X.length = 256) (hm : Y.length = 256)
    (h : ∀ w', Blk w' g 85 (cellsX Y) → w.grownBy w' (some g) → wpList Try.prog ops Q rest (a.put op.dst undef) w') : wpList Try.prog ops Q (op :: rest) a w :=
  wpList_plain hgd fun _ hK => by
    unfold Oper.wp execOp
    simp only [ho, hx, hy, Instr.storeAt, Instr.sureAddr, Sem.run_bind, Sem.run_pure, Result.andThen_ok, store_square hb hl hm]
    exact hK _ _ (h _ (gb_setRow hb).1 (gb_setRow hb).2)

/-- What is written lies in a block of the call's own. -/
theorem gb_new {a b c : World} {g : Nat} (h : a.grownBy b none) (k : b.grownBy c (some g)) (hg : a.heap.size ≤ g) : a.grownBy c none :=
  ⟨k.os.trans h.os, k.tape.trans h.tape, k.output.trans h.output, Nat.le_trans h.size k.size, fun i hi hne => (k.block i (Nat.lt_of_lt_of_le hi h.size) (fun e => by cases e; omega)).trans (h.block i hi hne)⟩

/-- A square and whether there is one. -/
def RetX (X : List Int) (b : Bool) (w : World) (e : Ending) (w' : World) : Prop := e = .returned (.tuple #[.agg (cellsX X), .bool b]) ∧ w.grownBy w' none
end Go.Proofs.Ytecaehkckamhkaa
end

section
namespace Go.Proofs.Ytecaehkckamhkaa
open Go.ChangeShapes Go.WideShapes Go.ChangeAt Go.RowKit
set_option linter.unusedVariables false

theorem implNodeAtV (W H x y n : Int) (h : atG W H x y = n) (w : World) :
    Calls Try.prog 119 #[.agg #[.int .i64 W, .int .i64 H], .int .i64 x, .int .i64 y] w (RetI n none w) := h ▸ implNodeAt W H x y w

theorem implNextNode (W H n p : Int) (w : World) :
    Calls Try.prog 106 #[.agg #[.int .i64 W, .int .i64 H], .int .i64 n, .int .i64 p] w (RetI (nextG W H n p) none w) := by
  cases hh : hasG W H n with
  | true =>
    obtain ⟨hW, hH⟩ := okG_cases (hasG_ok hh).1
    obtain ⟨a0, a1, a2, a3, a4⟩ := place_of hh
    have hN : nextG W H n p = (if p = 0 then atG W H (n % W) (n / W - 1) else if p = 1 then atG W H (n % W + 1) (n / W) else if p = 2 then atG W H (n % W) (n / W + 1) else if p = 3 then atG W H (n % W - 1) (n / W) else if p = 4 then n else -1) := by simp [nextG, hh]
    obtain ⟨x, hx⟩ : ∃ x, n % W = x := ⟨_, rfl⟩
    obtain ⟨y, hy⟩ : ∃ y, n / W = y := ⟨_, rfl⟩
    rw [hx, hy] at hN
    rw [hx] at a0 a1
    rw [hy] at a2 a3
    have x1 : x ≤ 4 := by omega
    have y1 : y ≤ 4 := by omega
    obtain ⟨r, hr⟩ : ∃ r, nextG W H n p = r := ⟨_, rfl⟩
    rw [hr] at hN ⊢
    have HP := Lib.hid (fun w => implPlace W H n x y hh hx hy w)
    clear a1 a3 a4 hW hH hr hx hy
    by_cases p0 : p = 0
    · subst p0
      simp at hN
      go_enter Try.func106, Try.ntmps106
      go_wp2_with fail
      refine (implHasNode W H n _).mono ?_
      rintro e w1 ⟨rfl, hg⟩
      have hb := boxi_blk hg
      have c0 := hb.cell 0
      have c1 := hb.cell 1
      have Hg := Lib.hid (boxi_gb hg)
      clear hg hb
      simp at c0 c1
      rw [hh]
      go_wp2_with fail
      refine (HP.out _).mono ?_
      rintro e w2 ⟨rfl, hg2⟩
      have d0 := hg2.cell c0 (by simp)
      have d1 := hg2.cell c1 (by simp)
      have Hg2 := Lib.hid (gb_trans Hg.out hg2)
      clear hg2 c0 c1
      go_wp2_with fail
      refine (implNodeAtV W H x (y - 1) r hN.symm _).mono ?_
      rintro e w3 ⟨rfl, hg3⟩
      have Hg3 := Lib.hid (gb_trans Hg2.out hg3)
      clear hg3
      go_wp2_with fail
      go_ret
      exact ⟨ret_int64 hN.symm, Hg3.out⟩
    by_cases p1 : p = 1
    · subst p1
      simp at hN
      go_enter Try.func106, Try.ntmps106
      go_wp2_with fail
      refine (implHasNode W H n _).mono ?_
      rintro e w1 ⟨rfl, hg⟩
      have hb := boxi_blk hg
      have c0 := hb.cell 0
      have c1 := hb.cell 1
      have Hg := Lib.hid (boxi_gb hg)
      clear hg hb
      simp at c0 c1
      rw [hh]
      go_wp2_with fail
      refine (HP.out _).mono ?_
      rintro e w2 ⟨rfl, hg2⟩
      have d0 := hg2.cell c0 (by simp)
      have d1 := hg2.cell c1 (by simp)
      have Hg2 := Lib.hid (gb_trans Hg.out hg2)
      clear hg2 c0 c1
      go_wp2_with fail
      refine (implNodeAtV W H (x + 1) y r hN.symm _).mono ?_
      rintro e w3 ⟨rfl, hg3⟩
      have Hg3 := Lib.hid (gb_trans Hg2.out hg3)
      clear hg3
      go_wp2_with fail
      go_ret
      exact ⟨ret_int64 hN.symm, Hg3.out⟩
    by_cases p2 : p = 2
    · subst p2
      simp at hN
      go_enter Try.func106, Try.ntmps106
      go_wp2_with fail
      refine (implHasNode W H n _).mono ?_
      rintro e w1 ⟨rfl, hg⟩
      have hb := boxi_blk hg
      have c0 := hb.cell 0
      have c1 := hb.cell 1
      have Hg := Lib.hid (boxi_gb hg)
      clear hg hb
      simp at c0 c1
      rw [hh]
      go_wp2_with fail
      refine (HP.out _).mono ?_
      rintro e w2 ⟨rfl, hg2⟩
      have d0 := hg2.cell c0 (by simp)
      have d1 := hg2.cell c1 (by simp)
      have Hg2 := Lib.hid (gb_trans Hg.out hg2)
      clear hg2 c0 c1
      go_wp2_with fail
      refine (implNodeAtV W H x (y + 1) r hN.symm _).mono ?_
      rintro e w3 ⟨rfl, hg3⟩
      have Hg3 := Lib.hid (gb_trans Hg2.out hg3)
      clear hg3
      go_wp2_with fail
      go_ret
      exact ⟨ret_int64 hN.symm, Hg3.out⟩
    by_cases p3 : p = 3
    · subst p3
      simp at hN
      go_enter Try.func106, Try.ntmps106
      go_wp2_with fail
      refine (implHasNode W H n _).mono ?_
      rintro e w1 ⟨rfl, hg⟩
      have hb := boxi_blk hg
      have c0 := hb.cell 0
      have c1 := hb.cell 1
      have Hg := Lib.hid (boxi_gb hg)
      clear hg hb
      simp at c0 c1
      rw [hh]
      go_wp2_with fail
      refine (HP.out _).mono ?_
      rintro e w2 ⟨rfl, hg2⟩
      have d0 := hg2.cell c0 (by simp)
      have d1 := hg2.cell c1 (by simp)
      have Hg2 := Lib.hid (gb_trans Hg.out hg2)
      clear hg2 c0 c1
      go_wp2_with fail
      refine (implNodeAtV W H (x - 1) y r hN.symm _).mono ?_
      rintro e w3 ⟨rfl, hg3⟩
      have Hg3 := Lib.hid (gb_trans Hg2.out hg3)
      clear hg3
      go_wp2_with fail
      go_ret
      exact ⟨ret_int64 hN.symm, Hg3.out⟩
    by_cases p4 : p = 4
    · subst p4
      simp at hN
      go_enter Try.func106, Try.ntmps106
      go_wp2_with fail
      refine (implHasNode W H n _).mono ?_
      rintro e w1 ⟨rfl, hg⟩
      have hb := boxi_blk hg
      have c0 := hb.cell 0
      have c1 := hb.cell 1
      have Hg := Lib.hid (boxi_gb hg)
      clear hg hb
      simp at c0 c1
      rw [hh]
      go_wp2_with fail
      refine (HP.out _).mono ?_
      rintro e w2 ⟨rfl, hg2⟩
      have d0 := hg2.cell c0 (by simp)
      have d1 := hg2.cell c1 (by simp)
      have Hg2 := Lib.hid (gb_trans Hg.out hg2)
      clear hg2 c0 c1
      go_wp2_with fail
      go_ret
      exact ⟨ret_int64 hN.symm, Hg2.out⟩
    simp [p0, p1, p2, p3, p4] at hN
    have q0 : (p == 0) = false := by simpa using p0
    have q1 : (p == 1) = false := by simpa using p1
    have q2 : (p == 2) = false := by simpa using p2
    have q3 : (p == 3) = false := by simpa using p3
    have q4 : (p == 4) = false := by simpa using p4
    clear p0 p1 p2 p3 p4
    go_enter Try.func106, Try.ntmps106
    go_wp2_with fail
    refine (implHasNode W H n _).mono ?_
    rintro e w1 ⟨rfl, hg⟩
    have hb := boxi_blk hg
    have c0 := hb.cell 0
    have c1 := hb.cell 1
    have Hg := Lib.hid (boxi_gb hg)
    clear hg hb
    simp at c0 c1
    rw [hh]
    go_wp2_with fail
    refine (HP.out _).mono ?_
    rintro e w2 ⟨rfl, hg2⟩
    have d0 := hg2.cell c0 (by simp)
    have d1 := hg2.cell c1 (by simp)
    have Hg2 := Lib.hid (gb_trans Hg.out hg2)
    clear hg2 c0 c1
    go_wp2_with fail
    go_ret
    exact ⟨ret_int64 hN.symm, Hg2.out⟩
  | false =>
    go_enter Try.func106, Try.ntmps106
    go_wp2_with fail
    refine (implHasNode W H n _).mono ?_
    rintro e w1 ⟨rfl, hg⟩
    rw [hh]
    go_wp2_with fail
    go_ret
    exact ⟨ret_int64 (by simp [nextG, hh]), boxi_gb hg⟩

theorem implNextNodeV (W H n p r : Int) (h : nextG W H n p = r) (w : World) :
    Calls Try.prog 106 #[.agg #[.int .i64 W, .int .i64 H], .int .i64 n, .int .i64 p] w (RetI r none w) := h ▸ implNextNode W H n p w

/-- Where a channel leads, by the rounding of the language. -/
def endG (W H c : Int) : Int := nextG W H (c.tdiv 4) (c.tmod 4)
theorem leads_end (W H c : Int) : leadsG W H c = decide (0 ≤ endG W H c) := by
  unfold leadsG endG
  by_cases h0 : 0 ≤ c
  · rw [Int.tdiv_eq_ediv_of_nonneg h0, Int.tmod_eq_emod_of_nonneg h0]
    refine decide_eq_decide.2 ⟨fun h => h.2.2, fun h => ⟨h0, ?_, h⟩⟩
    cases hh : hasG W H (c / 4) with
    | true => have := (hasG_iff.1 hh).2; omega
    | false => simp [nextG, hh] at h
  · refine decide_eq_decide.2 ⟨fun h => absurd h.1 h0, fun h => ?_⟩
    exfalso
    cases hh : hasG W H (c.tdiv 4) with
    | true =>
      have h1 := (hasG_iff.1 hh).1
      have h2 : c.tmod 4 < 0 := by
        have e := Int.mul_tdiv_add_tmod c 4
        omega
      rw [nextG_has (by omega)] at h
      omega
    | false => simp [nextG, hh] at h
theorem implEnd (W H c r : Int) (hc : (Lit.int .i64 c).wf = true) (hr : endG W H c = r) (w : World) :
    Calls Try.prog 78 #[.agg #[.int .i64 W, .int .i64 H], .int .i64 c] w (RetI r none w) := by
  have hb := bounds_i64 hc
  have hm : c.tmod 4 < 4 ∧ -4 < c.tmod 4 := ⟨Int.tmod_lt_of_pos _ (by omega), by have := Int.lt_tmod_of_pos c (b := 4) (by omega); omega⟩
  have hq : wrap64 (c.tdiv 4) = c.tdiv 4 := IntWalk.wrap64_in _ (by have := Int.mul_tdiv_add_tmod c 4; omega)
  clear hm
  have HC := Lib.hid (fun w => implNextNodeV W H (c.tdiv 4) (c.tmod 4) r hr w)
  clear hc hr hb
  go_enter Try.func78, Try.ntmps78
  go_wp2_with fail
  simp only [hq]
  refine (HC.out _).mono ?_
  rintro e w1 ⟨rfl, hg⟩
  have Hg := Lib.hid (boxi_gb hg)
  clear hg
  go_wp2_with fail
  go_ret
  exact ⟨rfl, Hg.out⟩
end Go.Proofs.Ytecaehkckamhkaa
end

section
namespace Go.Proofs.Ytecaehkckamhkaa
open Go.ChangeShapes Go.WideShapes Go.ChangeAt Go.RowKit
set_option linter.unusedVariables false

/-- The numbers of L have 64 bits. -/
def WfL (L : List Int) : Prop := ∀ x ∈ L, (Lit.int .i64 x).wf = true
theorem WfL.get {L : List Int} (h : WfL L) {k : Nat} {x : Int} (hk : k < L.length) (hx : L.getD k 0 = x) : (Lit.int .i64 x).wf = true := by
  rw [List.getD_eq_getElem?_getD, List.getElem?_eq_getElem hk] at hx
  simp only [Option.getD_some] at hx
  exact h x (hx ▸ List.getElem_mem hk)
theorem leads_wf {W H c : Int} (h : leadsG W H c = true) : (Lit.int .i64 c).wf = true := by
  have h1 : 0 ≤ c ∧ c < 4 * countG W H ∧ 0 ≤ nextG W H (c / 4) (c % 4) := by simpa [leadsG] using h
  have h2 := countG_le W H
  exact WalkArith.wf_i64 (by omega)
theorem mesh_wf {W H : Int} {L : List Int} (h : meshG W H L = true) : WfL L := fun x hx => by
  obtain ⟨j, hj, rfl⟩ := List.getElem_of_mem hx
  have h1 := (meshG_ok h).2 j hj
  simp only [goodAt, Bool.and_eq_true] at h1
  refine leads_wf (W := W) (H := H) ?_
  have := h1.1
  rw [List.getD_eq_getElem?_getD, List.getElem?_eq_getElem hj] at this
  exact this
end Go.Proofs.Ytecaehkckamhkaa
end

section
namespace Go.Proofs.Ytecaehkckamhkaa
open Go.ChangeShapes Go.WideShapes Go.ChangeAt Go.RowKit
set_option linter.unusedVariables false

theorem implMeshOk (W H : Int) (A : Option Addr) (n cap : Nat) (L : List Int) (hL : WfL L) (w : World) (h : IntAt w w.heap.size A n L) (hn : n ≤ 1000000000) :
    Calls Try.prog 76 #[.agg #[.int .i64 W, .int .i64 H, .slice A n cap]] w (RetB (meshG W H L) w) := by
  have hl := h.1
  have HI := Lib.hid h
  have HW := Lib.hid hL
  clear h hL
  cases hok : okG W H with
  | false =>
    go_enter Try.func76, Try.ntmps76
    go_wp2_with fail
    refine (implGridOk W H _).mono ?_
    rintro e w1 ⟨rfl, hg⟩
    rw [hok]
    go_wp2_with fail
    go_ret
    exact ⟨ret_bool (meshG_bad hok).symm, boxi_gb hg⟩
  | true =>
    go_enter Try.func76, Try.ntmps76
    go_wp2_with fail
    refine (implGridOk W H _).mono ?_
    rintro e w1 ⟨rfl, hg⟩
    have HM := Lib.hid (show MeshAt W H L A n cap w 0 w1 from ⟨goodTo_zero W H L, hg⟩)
    have hbk := boxi_blk hg
    have a2 : w1.cell? ⟨w.heap.size, 2, none⟩ = some (.slice A n cap) := hbk.cell 2
    clear hg hbk
    rw [hok]
    go_wp2_with fail
    clear a2
    go_loopw [12] (fun i wr => ∃ k : Nat, i = .int .i64 (k : Int) ∧ k ≤ n ∧ MeshAt W H L A n cap w k wr) (fun i _ => n - (intOf i).toNat)
    case atStart => exact ⟨0, rfl, Nat.zero_le _, HM.out⟩
    case round =>
      obtain ⟨k, rfl, hk, hgood, hg⟩ := hrel
      have HGo := Lib.hid hgood
      have HG := Lib.hid hg
      have hbk := boxi_blk hg
      have HBK := Lib.hid hbk
      have a0 : wr.cell? ⟨w.heap.size, 0, none⟩ = some (.int .i64 W) := hbk.cell 0
      have a1 : wr.cell? ⟨w.heap.size, 1, none⟩ = some (.int .i64 H) := hbk.cell 1
      have a2 : wr.cell? ⟨w.heap.size, 2, none⟩ = some (.slice A n cap) := hbk.cell 2
      have hia := HI.out.none (Nat.le_refl _) (boxi_gb hg)
      have HIA := Lib.hid hia
      clear hg hgood hbk
      by_cases hlt : k < n
      · obtain ⟨b, off, rfl, hb, hc⟩ := hia.at k hlt
        obtain ⟨x, hx⟩ : ∃ x, L.getD k 0 = x := ⟨_, rfl⟩
        rw [hx] at hc
        obtain ⟨r, hr⟩ : ∃ r, endG W H x = r := ⟨_, rfl⟩
        have HE := Lib.hid (fun w => implEnd W H x r (HW.out.get (by omega) hx) hr w)
        have hld := leads_end W H x
        rw [hr] at hld
        clear hia hr
        by_cases h0 : r < 0
        · have hbad := meshG_no (L := L) (i := k) (by omega) (goodAt_lead hx (by rw [hld]; exact decide_eq_false (by omega)))
          have HBad := Lib.hid hbad
          clear hx hld hbad
          go_wp2_with fail
          refine (HE.out _).mono ?_
          rintro e w2 ⟨rfl, hg2⟩
          have HG2 := Lib.hid (gb_trans (boxi_gb HG.out) hg2)
          clear hg2
          go_wp2_with fail
          go_ret
          exact ⟨ret_bool HBad.out.symm, HG2.out⟩
        · have hldt : leadsG W H x = true := by rw [hld]; exact decide_eq_true (by omega)
          clear hld
          cases k with
          | zero =>
            have HNx := Lib.hid (goodTo_succ HGo.out (goodAt_first hx hldt))
            have hc' : wr.cell? ⟨b, off, none⟩ = some (.int .i64 x) := hc
            clear hx hldt hc
            go_wp2_with fail
            refine (HE.out _).mono ?_
            rintro e w2 ⟨rfl, hg2⟩
            have HG2 := Lib.hid (gb_trans HG.out hg2)
            clear hg2
            go_wp2_with fail
            go_roundw
            case rel => exact ⟨1, by go_num, by omega, HNx.out, HG2.out⟩
            case measure => simp [intOf] <;> omega
          | succ j =>
            obtain ⟨b', off', hbe, _, hc2⟩ := HIA.out.at j (by omega)
            obtain ⟨rfl, rfl⟩ : b = b' ∧ off = off' := by injection hbe with h1; injection h1 with h2 h3; exact ⟨h2, h3⟩
            obtain ⟨y, hy⟩ : ∃ y, L.getD j 0 = y := ⟨_, rfl⟩
            rw [hy] at hc2
            have hga := goodAt_next hx hy hldt
            have HGA := Lib.hid hga
            clear hx hy hldt hga hbe
            go_wp2_with fail
            refine (HE.out _).mono ?_
            rintro e w2 ⟨rfl, hg2⟩
            have dc := hg2.cell hc (by simp)
            have dc2 := hg2.cell hc2 (by simp)
            have d2 := hg2.cell a2 (by simp)
            have HG2 := Lib.hid (gb_trans HG.out hg2)
            clear hg2 hc hc2 a0 a1 a2
            by_cases hyx : y < x
            · have hge : decide (y ≥ x) = false := decide_eq_false (by omega)
              have HNx := Lib.hid (goodTo_succ HGo.out (HGA.out.trans (decide_eq_true hyx)))
              clear hyx
              go_wp2_with fail
              go_roundw
              case rel => exact ⟨j + 2, by go_num, by omega, HNx.out, HG2.out⟩
              case measure => simp [intOf] <;> omega
            · have hge : decide (y ≥ x) = true := decide_eq_true (by omega)
              have HBad := Lib.hid (meshG_no (i := j + 1) (by omega) (HGA.out.trans (decide_eq_false hyx)))
              clear hyx
              go_wp2_with fail
              go_ret
              exact ⟨ret_bool HBad.out.symm, boxi_gb HG2.out⟩
      · obtain rfl : k = n := by omega
        clear hia
        go_wp2_with fail
        go_ret
        exact ⟨ret_bool (meshG_yes hok (by rw [hl]; exact HGo.out)).symm, boxi_gb HG.out⟩

theorem implMeshOkV (W H : Int) (A : Option Addr) (n cap : Nat) (L : List Int) (b : Bool) (hb : meshG W H L = b) (hL : WfL L) (w : World) (h : IntAt w w.heap.size A n L) (hn : n ≤ 1000000000) :
    Calls Try.prog 76 #[.agg #[.int .i64 W, .int .i64 H, .slice A n cap]] w (RetB b w) := hb ▸ implMeshOk W H A n cap L hL w h hn
end Go.Proofs.Ytecaehkckamhkaa
end
