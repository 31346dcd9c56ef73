/- What is proved here: small facts on worlds, owned rows and byte rows that the other texts of this seat use; nothing of the program; the drawing functions of the given model (a cursor over the bytes of a draw) return numbers in their ranges, for every cursor whose bytes can be read; only the cursor's own block and new blocks are written; a number picked from a list is one of the list; only the cursor's own block and new blocks are written; the numbers that the grid functions return, as mathematics; nothing of the program; a drawn grid is a valid one; only new blocks are written; the numbers that the mesh functions return, as mathematics; nothing of the program; the numbers that the functions on routing tables return, as mathematics; nothing of the program; the standard tables, as mathematics: all of them are valid and minimal, and their longest walk is the diameter; nothing of the program; small facts on rows of the call's own, on texts as cells and on the bytes of a text; nothing of the program; what the model's test of a range returns, and small facts on a box; nothing of the program; what the model's GridOk and NodeCount return, for all arguments; only new blocks are written; what the model's port of a standard table returns, for nodes that exist; only new blocks are written; small facts on rows of integers of the call's own; nothing of the program; small facts on slices of integers that can be read, and new rows; nothing of the program; small facts on new lists of numbers; nothing of the program; two boxed arguments stay known behind a call, and the number of pairs of nodes is small; nothing of the program; what the model's standard table holds; only new blocks are written; small facts on a cursor where other blocks are written; nothing of the program; the contract of a function that builds one new list of numbers and says whether there is one; nothing of the program; small facts on four rows of numbers of a call's own that lie in different blocks; nothing of the program; small facts on two rows of numbers that lie apart from each other; nothing of the program; what stays where only an interval of blocks and new blocks are written, and facts that hang on an interval of blocks alone; nothing of the program; a drawn mesh with two tables: a valid grid without broken channels and two standard tables; only the cursor and new blocks are written; DrawClasses returns a valid grid's mesh and two of its standard tables; only new blocks are written; the laws' size test answers whether a draw has more than a million bytes; nothing is written; the law's comparison of two lists of numbers that hold the same answers true; only the tape moves; lists of dependencies (pairs of channels) as mathematics: their order, where an element goes into an ascending list, merging, shifting, and their cells; nothing of the program; the lists that the functions on routes return, as mathematics; nothing of the program; a neighbor has the node as its neighbor at the opposite port, at the distance 1; as mathematics, nothing of the program; a route turned back leads back along the same nodes, and turned back twice it is the route again; a table's walk is a route that visits no node twice; as mathematics, nothing of the program; sets of turns as mathematics, and which turns the ways of a table take; nothing of the program. -/
import Derived.Test.YtcmlnokfjbglaaaDoorRows
import Derived.WalkKit
import Derived.ProofKit
import Derived.OpenShut
import Derived.Below
import Derived.BigQuiet
import Derived.Deep.QuietTactic
import Derived.Deep.Draws
import Derived.Laws.AppendOwn
import Derived.Lib.Hide
import Derived.IntWalk
import Derived.StillTailTactics
import Derived.OwnWalk
import Derived.Laws.IdiomStrings
import Derived.Lib.BufferRead
import Derived.Deep.AppendLies
import Derived.Outline
import Derived.Deep.RegionHeld3
import Derived.Deep.DrawnRows
import Derived.Laws.OwnMore
import Derived.Deep.RegionLaw
section
namespace Go.Proofs.YtcmlnokfjbglaaaDoor
open Go.ChangeShapes Go.WideShapes Go.ChangeAt Go.RowKit
set_option linter.unusedVariables false

theorem ret_int64 {a b : Int} (h : a = b) : Ending.returned (.int .i64 a) = .returned (.int .i64 b) := by rw [h]
theorem ret_bool {a b : Bool} (h : a = b) : Ending.returned (.bool a) = .returned (.bool b) := by rw [h]

/-- No cell is held: for a drawn region that loads nothing. -/
def Tru (w : World) : Prop := w = w
theorem tru (w : World) : Tru w := rfl
/-- A contract that states the world on the left, turned for a still region. -/
theorem still_of {P : Program} {f : FuncId} {args : Array Value} {w : World} {v : Value} (h : Calls P f args w fun e w' => e = .returned v ∧ w = w') : Calls P f args w fun e w' => e = .returned v ∧ w' = w :=
  h.mono fun _ _ ⟨he, hw⟩ => ⟨he, hw.symm⟩

theorem gb_refl (w : World) (row : Option Nat) : w.grownBy w row := ⟨rfl, rfl, rfl, Nat.le_refl _, fun _ _ _ => rfl⟩
theorem gb_trans {a b c : World} {row : Option Nat} (h : a.grownBy b row) (k : b.grownBy c row) : a.grownBy c row :=
  ⟨k.os.trans h.os, k.tape.trans h.tape, k.output.trans h.output, Nat.le_trans h.size k.size, fun i hi hne => (k.block i (Nat.lt_of_lt_of_le hi h.size) hne).trans (h.block i hi hne)⟩
theorem gb_drewN {a w : World} {row : Option Nat} (h : a.grownBy w row) (n : Nat) : a.grownBy (w.drewN n) row := ⟨h.os, h.tape, h.output, h.size, h.block⟩
theorem gb_drew {a w : World} {row : Option Nat} (h : a.grownBy w row) : a.grownBy w.drew row := ⟨h.os, h.tape, h.output, h.size, h.block⟩
theorem gb_alloc {a w : World} {row : Option Nat} (h : a.grownBy w row) (o : Obj) : a.grownBy (w.alloc o) row :=
  ⟨h.os, h.tape, h.output, Nat.le_trans h.size (by simp), fun i hi hne => (Below.heap_alloc w o i (Nat.lt_of_lt_of_le hi h.size)).trans (h.block i hi hne)⟩
theorem gb_setCell {a w : World} {row : Option Nat} (h : a.grownBy w row) {p : Addr} (hp : some p.block = row ∨ a.heap.size ≤ p.block) (u : Value) : a.grownBy (w.setCell p u) row :=
  ⟨h.os, h.tape, h.output, by simpa [World.setCell] using h.size, fun i hi hne => (Below.heap_setCell w p u i (by
    rintro rfl
    rcases hp with hp | hp
    · exact hne hp
    · omega)).trans (h.block i hi hne)⟩
theorem gb_of_below {a w : World} (h : Below a.heap.size a w) (row : Option Nat) : a.grownBy w row := ⟨h.os, h.tape, h.output, h.size, fun i hi _ => h.block i hi⟩
theorem gb_below {B : Nat} {w w' : World} {g : Nat} (h : w.grownBy w' (some g)) (hB : B ≤ w.heap.size) (hg : B ≤ g) : Below B w w' :=
  ⟨h.os, h.tape, h.output, h.size, fun i hi => h.block i (by omega) (fun e => by cases e; omega)⟩
theorem gb_below_none {B : Nat} {w w' : World} (h : w.grownBy w' none) (hB : B ≤ w.heap.size) : Below B w w' :=
  ⟨h.os, h.tape, h.output, h.size, fun i hi => h.block i (by omega) (fun e => by cases e)⟩
theorem below_drewN {B : Nat} {a w : World} (h : Below B a w) (n : Nat) : Below B a (w.drewN n) := ⟨h.os, h.tape, h.output, h.size, h.block⟩

/-- A block of cells that the call may write, known whole. -/
def Blk (w : World) (g : Nat) (t : TypeId) (cs : Array Value) : Prop := w.heap[g]? = some (.cells cs t (0, 0))
section
variable {w w' : World} {g : Nat} {t : TypeId} {cs : Array Value}
theorem Blk.lt (h : Blk w g t cs) : g < w.heap.size := by
  rcases Nat.lt_or_ge g w.heap.size with hlt | hge
  · exact hlt
  · unfold Blk at h; rw [Array.getElem?_eq_none hge] at h; cases h
theorem Blk.cell (h : Blk w g t cs) (i : Nat) : w.cell? ⟨g, i, none⟩ = cs[i]? := cell_of_row w g i cs t (0, 0) h
theorem Blk.frozen (h : Blk w g t cs) (i : Nat) : w.frozen? ⟨g, i, none⟩ = false := by
  unfold Blk at h
  simp [World.frozen?, h]
theorem Blk.new (w : World) (t : TypeId) (cs : Array Value) : Blk (w.alloc (.cells cs t)) w.heap.size t cs := heap_alloc_new w _
theorem Blk.drewN (h : Blk w g t cs) (n : Nat) : Blk (w.drewN n) g t cs := h
theorem Blk.alloc (h : Blk w g t cs) (o : Obj) : Blk (w.alloc o) g t cs := (Below.heap_alloc w o g h.lt).trans h
theorem Blk.set_ (h : Blk w g t cs) (i : Nat) (u : Value) : Blk (w.setCell ⟨g, i, none⟩ u) g t (cs.setIfInBounds i u) := by
  unfold Blk at h ⊢
  simp [World.setCell, Array.getElem?_modify, h]
theorem Blk.far (h : Blk w g t cs) {p : Addr} (hp : g ≠ p.block) (u : Value) : Blk (w.setCell p u) g t cs := (Below.heap_setCell w p u g hp).trans h
theorem Blk.grown {row : Option Nat} (h : Blk w g t cs) (hb : w.grownBy w' row) (hg : some g ≠ row) : Blk w' g t cs := (hb.block g h.lt hg).trans h
theorem Blk.below {B : Nat} (h : Blk w g t cs) (hb : Below B w w') (hg : g < B) : Blk w' g t cs := (hb.block g hg).trans h
theorem own_ne {base : Nat} {e : TypeId} {size n : Nat} {v : Value} {xs : List Value} (h : w.ownsRow base e size v n xs) (hg : Blk w g t cs) (hne : e ≠ t) : v.ownBlock ≠ some g := by
  rcases h.2 with ⟨rfl, _⟩ | ⟨g', cap, cur, rfl, _, hh, _⟩
  · simp [Value.ownBlock]
  · intro he
    have : g' = g := by simpa [Value.ownBlock] using he
    subst this
    unfold Blk at hg
    rw [hg] at hh
    injection hh with hh
    injection hh with _ ht
    exact hne ht.symm
end

/-- A slice of bytes that came in: its first n cells are bytes, in a block below B. -/
def ByteRow (w : World) (B : Nat) (A : Option Addr) (n : Nat) : Prop :=
  0 < n → ∃ b off, A = some ⟨b, off, none⟩ ∧ b < B ∧ ∀ k, k < n → ∃ v : Int, 0 ≤ v ∧ v ≤ 255 ∧ w.cell? ⟨b, off + k, none⟩ = some (.int .u8 v)
theorem ByteRow.keep {w w' : World} {B n : Nat} {A : Option Addr} (h : ByteRow w B A n) (hk : ∀ p : Addr, p.block < B → w'.cell? p = w.cell? p) : ByteRow w' B A n := fun hn => by
  obtain ⟨b, off, hA, hb, hc⟩ := h hn
  refine ⟨b, off, hA, hb, fun k hkn => ?_⟩
  obtain ⟨v, h0, h1, hv⟩ := hc k hkn
  exact ⟨v, h0, h1, (hk _ hb).trans hv⟩
theorem ByteRow.more {w : World} {B B' n : Nat} {A : Option Addr} (h : ByteRow w B A n) (hB : B ≤ B') : ByteRow w B' A n := fun hn => by
  obtain ⟨b, off, hA, hb, hc⟩ := h hn
  exact ⟨b, off, hA, by omega, hc⟩

theorem byteRow_of {w : World} {n : Nat} (x : Addr) (zs : List Int) (hl : n ≤ zs.length) (hcell : ∀ i, i < zs.length → w.cell? (x.add i) = some (.int .u8 (zs.getD i 0))) (hwz : ∀ z ∈ zs, (Lit.int .u8 z).wf = true) :
    ByteRow w w.heap.size (some x) n := fun hn => by
  obtain ⟨b, off, spot⟩ := x
  have hc := hcell 0 (by omega)
  have hspot : spot = none := by simpa [Addr.add] using World.cell?_spot hc
  subst hspot
  have hlt : b < w.heap.size := by simpa [Addr.add] using World.block_lt_of_cell? _ _ hc
  refine ⟨b, off, rfl, hlt, fun k hk => ?_⟩
  have hk' : k < zs.length := by omega
  have hb := bounds_u8 (hwz (zs.getD k 0) (by simp [List.getD, List.getElem?_eq_getElem hk']))
  exact ⟨zs.getD k 0, hb.1, hb.2, by simpa [Addr.add_lit] using hcell k hk'⟩

theorem band_u (x : Int) (m : Nat) (hm : m ≤ 2147483647) : 0 ≤ bits .and .i64 x (m : Int) ∧ bits .and .i64 x (m : Int) ≤ m := by
  have h : ((BitVec.ofInt IntKind.i64.bits x) &&& (BitVec.ofInt IntKind.i64.bits (m : Int))).toNat ≤ m := by
    rw [BitVec.toNat_and]
    refine Nat.le_trans Nat.and_le_right ?_
    simp [IntKind.bits]
    omega
  have e : bits .and .i64 x (m : Int) = (((BitVec.ofInt IntKind.i64.bits x) &&& (BitVec.ofInt IntKind.i64.bits (m : Int))).toNat : Int) := by
    show IntKind.i64.wrap (((BitVec.ofInt IntKind.i64.bits x) &&& (BitVec.ofInt IntKind.i64.bits (m : Int))).toNat : Int) = _
    exact IntWalk.i64_in _ (by omega)
  rw [e]
  omega

/-- Bytes as the cells of a row. -/
def bytesV (l : List UInt8) : List Value := l.map fun c => Value.int .u8 (c.toNat : Int)
theorem bytesV_append (a b : List UInt8) : bytesV (a ++ b) = bytesV a ++ bytesV b := by simp [bytesV]
theorem bytesV_length (a : List UInt8) : (bytesV a).length = a.length := by simp [bytesV]

theorem take_snoc (s : ByteArray) (k : Nat) (h : k < s.size) : s.data.toList.take (k + 1) = s.data.toList.take k ++ [s[k]] := by
  rw [List.take_succ_eq_append_getElem (by simpa using h)]; rfl

end Go.Proofs.YtcmlnokfjbglaaaDoor
end

section
namespace Go.Proofs.YtcmlnokfjbglaaaDoor
open Go.ChangeShapes Go.WideShapes Go.ChangeAt Go.RowKit
set_option linter.unusedVariables false

/-- Block g is a cursor over a row of bytes that lies in an older block. -/
def Cur (w : World) (g : Nat) : Prop :=
  ∃ (A : Option Addr) (n cap i : Nat) (h : Int), Blk w g 69 #[.slice A n cap, .int .i64 i, .int .i64 h] ∧ i ≤ n ∧ n ≤ 1048576 ∧ ByteRow w g A n
theorem Cur.lt {w : World} {g : Nat} (h : Cur w g) : g < w.heap.size := by obtain ⟨A, n, cap, i, h, hb, _⟩ := h; exact hb.lt
theorem Cur.grown {w w' : World} {g : Nat} {row : Option Nat} (h : Cur w g) (hg : w.grownBy w' row) (hr : ∀ k, row = some k → g < k) : Cur w' g := by
  have hlt := h.lt
  obtain ⟨A, n, cap, i, h, hb, hi, hn, hr'⟩ := h
  exact ⟨A, n, cap, i, h, hb.grown hg (fun e => by have := hr g e.symm; omega), hi, hn, hr'.keep fun p hp => World.cell?_of_block (hg.block p.block (by omega) (fun e => by have := hr _ e.symm; omega))⟩
theorem Cur.other {w w' : World} {g : Nat} {base : Nat} {e : TypeId} {size n : Nat} {v : Value} {xs : List Value} (h : Cur w g) (hg : w.grownBy w' v.ownBlock) (ho : w.ownsRow base e size v n xs) (hbase : g < base) : Cur w' g :=
  h.grown hg (fun k hk => by have := (ho.lt k hk).1; omega)

/-- An integer between lo and hi is returned; only the cursor and new blocks are written. -/
def DrawnI (lo hi : Int) (g : Nat) (w : World) (e : Ending) (w' : World) : Prop := ∃ n : Int, e = .returned (.int .i64 n) ∧ lo ≤ n ∧ n ≤ hi ∧ Cur w' g ∧ w.grownBy w' (some g)
def DrawnB (g : Nat) (w : World) (e : Ending) (w' : World) : Prop := ∃ b : Bool, e = .returned (.bool b) ∧ Cur w' g ∧ w.grownBy w' (some g)

theorem Cur.of {w w' : World} {g : Nat} {A : Option Addr} {n cap i' : Nat} {cs : Array Value} {h' : Int} (hb : Blk w g 69 cs) (hr : ByteRow w g A n) (hg : w.grownBy w' (some g))
    (hb' : Blk w' g 69 #[.slice A n cap, .int .i64 i', .int .i64 h']) (hi : i' ≤ n) (hn : n ≤ 1048576) : Cur w' g := by
  have hlt := hb.lt
  exact ⟨A, n, cap, i', h', hb', hi, hn, hr.keep fun p hp => World.cell?_of_block (hg.block p.block (by omega) (fun e => by cases e; omega))⟩

theorem l01Byte (g : Nat) (w : World) (hcur : Cur w g) :
    Calls Tryd.prog 43 #[.pointer (some ⟨g, 0, none⟩)] w (DrawnI 0 255 g w) := by
  obtain ⟨A, n, cap, i, h, hb, hi, hn, hr⟩ := hcur
  have c0 : w.cell? ⟨g, 0, none⟩ = some (.slice A n cap) := hb.cell 0
  have c1 : w.cell? ⟨g, 1, none⟩ = some (.int .i64 i) := hb.cell 1
  have c2 : w.cell? ⟨g, 2, none⟩ = some (.int .i64 h) := hb.cell 2
  have f1 := hb.frozen 1
  have f2 := hb.frozen 2
  have Hb : Hid (Blk w g 69 #[.slice A n cap, .int .i64 i, .int .i64 h]) := hb
  have Hr : Hid (ByteRow w g A n) := hr
  by_cases hlt : i < n
  · obtain ⟨b, off, rfl, hbg, hcell⟩ := hr (by omega)
    obtain ⟨v, hv0, hv1, cv⟩ := hcell i hlt
    have hne : ¬ g = b := by omega
    have hd : decide ((i : Int) < (n : Int)) = true := by simp; omega
    clear hb hr hcell
    go_enter Tryd.func43, Tryd.ntmps43
    go_wp2
    go_quiet (fail)
    go_wp2
    go_quiet (fail)
    go_wp2
    go_quiet (fail)
    go_wp2
    go_ret
    refine ⟨_, rfl, (band_u _ 255 (by omega)).1, (band_u _ 255 (by omega)).2, ?_, ?_⟩
    · refine Cur.of Hb.out Hr.out ?_ (i' := i + 1) (((Hb.out.set_ 2 _).drewN _).set_ 1 _) (by omega) hn
      repeat (first | exact gb_refl _ _ | refine gb_drewN ?_ _ | refine gb_setCell ?_ (.inl rfl) _)
    · repeat (first | exact gb_refl _ _ | refine gb_drewN ?_ _ | refine gb_setCell ?_ (.inl rfl) _)
  · have hd : decide ((i : Int) < (n : Int)) = false := by simp; omega
    clear hb hr
    go_enter Tryd.func43, Tryd.ntmps43
    go_wp2
    go_quiet (fail)
    go_wp2
    go_quiet (fail)
    go_wp2
    go_ret
    refine ⟨_, rfl, (band_u _ 255 (by omega)).1, (band_u _ 255 (by omega)).2, ?_, ?_⟩
    · refine Cur.of Hb.out Hr.out ?_ (i' := i) (((Hb.out.set_ 2 _).drewN _).drewN _) hi hn
      repeat (first | exact gb_refl _ _ | refine gb_drewN ?_ _ | refine gb_setCell ?_ (.inl rfl) _)
    · repeat (first | exact gb_refl _ _ | refine gb_drewN ?_ _ | refine gb_setCell ?_ (.inl rfl) _)

/-- A drawn number below n: 0 where n is not above 0. -/
def DrawnBelow (n : Int) (g : Nat) (w : World) (e : Ending) (w' : World) : Prop := ∃ r : Int, e = .returned (.int .i64 r) ∧ 0 ≤ r ∧ (0 < n → r < n) ∧ (n ≤ 0 → r = 0) ∧ Cur w' g ∧ w.grownBy w' (some g)

theorem l01Below (n : Int) (g : Nat) (w : World) (hcur : Cur w g) :
    Calls Tryd.prog 26 #[.pointer (some ⟨g, 0, none⟩), .int .i64 n] w (DrawnBelow n g w) := by
  by_cases h0 : n ≤ 0
  · go_enter Tryd.func26, Tryd.ntmps26
    go_wp2
    go_ret
    exact ⟨0, rfl, by omega, by omega, fun _ => rfl, hcur, gb_refl _ _⟩
  · by_cases h1 : n ≤ 256
    · go_enter Tryd.func26, Tryd.ntmps26
      go_wp2_with fail
      refine (l01Byte g _ hcur).mono ?_
      rintro e w1 ⟨r, rfl, hr0, hr1, hcur1, hg1⟩
      have hm0 : 0 ≤ r % n := Int.emod_nonneg _ (by omega)
      have hm1 : r % n < n := Int.emod_lt_of_pos _ (by omega)
      go_wp2_with fail
      go_ret
      exact ⟨r % n, rfl, hm0, fun _ => hm1, fun h => (by omega), hcur1, hg1⟩
    · go_enter Tryd.func26, Tryd.ntmps26
      go_wp2_with fail
      refine (l01Byte g _ hcur).mono ?_
      rintro e w1 ⟨r1, rfl, hr10, hr11, hcur1, hg1⟩
      go_wp2_with fail
      refine (l01Byte g _ hcur1).mono ?_
      rintro e w2 ⟨r2, rfl, hr20, hr21, hcur2, hg2⟩
      go_wp2_with fail
      refine (l01Byte g _ hcur2).mono ?_
      rintro e w3 ⟨r3, rfl, hr30, hr31, hcur3, hg3⟩
      go_wp2_with fail
      refine (l01Byte g _ hcur3).mono ?_
      rintro e w4 ⟨r4, rfl, hr40, hr41, hcur4, hg4⟩
      have hm0 : 0 ≤ (r1 * 16777216 + r2 * 65536 + r3 * 256 + r4) % n := Int.emod_nonneg _ (by omega)
      have hm1 : (r1 * 16777216 + r2 * 65536 + r3 * 256 + r4) % n < n := Int.emod_lt_of_pos _ (by omega)
      go_wp2_with fail
      go_ret
      exact ⟨_, rfl, hm0, fun _ => hm1, fun h => (by omega), hcur4, gb_trans hg1 (gb_trans hg2 (gb_trans hg3 hg4))⟩

/-- A new cursor over the bytes of a draw. -/
def NewCur (w : World) (e : Ending) (w' : World) : Prop := ∃ g : Nat, e = .returned (.pointer (some ⟨g, 0, none⟩)) ∧ w.heap.size ≤ g ∧ Cur w' g ∧ Below w.heap.size w w'

set_option maxRecDepth 100000 in
theorem l01New (A : Option Addr) (n cap : Nat) (w : World) (hr : ByteRow w w.heap.size A n) (hn : n ≤ 1048576) :
    Calls Tryd.prog 13 #[.slice A n cap] w (NewCur w) := by
  have Hr : Hid (ByteRow w w.heap.size A n) := hr
  go_enter Tryd.func13, Tryd.ntmps13
  go_wp2
  go_loop [3, 4] (fun h i => ∃ (k : Nat) (z : Int), k ≤ n ∧ i = .int .i64 k ∧ h = .int .i64 z) (fun _ i => n - (intOf i).toNat)
  case atStart => exact ⟨0, _, Nat.zero_le _, rfl, rfl⟩
  case round =>
    obtain ⟨k, z, hk, rfl, rfl⟩ := hrel
    by_cases hlt : k < n
    · obtain ⟨b, off, rfl, hbg, hcell⟩ := hr (by omega)
      obtain ⟨v, hv0, hv1, cv⟩ := hcell k hlt
      by_cases h4 : k < 4000
      · clear hcell hr
        go_wp2
        go_round
        case rel => exact ⟨k + 1, _, by omega, by go_num, rfl⟩
        case measure => simp [intOf]; omega
      · clear hcell hr
        go_wp2
        go_ret
        exact ⟨w.heap.size, rfl, Nat.le_refl _, ⟨_, n, cap, 0, z, Blk.new _ _ _, Nat.zero_le _, hn, Hr.out.keep fun p hp => World.cell?_of_block (Below.heap_alloc _ _ _ hp)⟩, (Below.refl _ _).alloc (Nat.le_refl _) _⟩
    · clear hr
      go_wp2
      go_ret
      exact ⟨w.heap.size, rfl, Nat.le_refl _, ⟨_, n, cap, 0, z, Blk.new _ _ _, Nat.zero_le _, hn, Hr.out.keep fun p hp => World.cell?_of_block (Below.heap_alloc _ _ _ hp)⟩, (Below.refl _ _).alloc (Nat.le_refl _) _⟩
end Go.Proofs.YtcmlnokfjbglaaaDoor
end

section
namespace Go.Proofs.YtcmlnokfjbglaaaDoor
open Go.ChangeShapes Go.WideShapes Go.ChangeAt Go.RowKit
set_option linter.unusedVariables false

/-- A 64-bit integer is returned for which P holds. -/
def DrawnP (P : Int → Prop) (g : Nat) (w : World) (e : Ending) (w' : World) : Prop := ∃ n : Int, e = .returned (.int .i64 n) ∧ P n ∧ Cur w' g ∧ w.grownBy w' (some g)
def IsI64 (n : Int) : Prop := (Lit.int .i64 n).wf = true

theorem l01PickInt (P : Int → Prop) (b m cap : Nat) (g : Nat) (w : World) (hcur : Cur w g) (hm : 0 < m) (hb : b ≠ g) (hbs : b < w.heap.size)
    (hL : ∀ k, k < m → ∃ x : Int, P x ∧ w.cell? ⟨b, k, none⟩ = some (.int .i64 x)) :
    Calls Tryd.prog 40 #[.pointer (some ⟨g, 0, none⟩), .slice (some ⟨b, 0, none⟩) m cap] w (DrawnP P g w) := by
  have HL := Lib.hid hL
  clear hL
  go_enter Tryd.func40, Tryd.ntmps40
  go_wp2_with fail
  refine (l01Below m g _ hcur).mono ?_
  rintro e w1 ⟨r, rfl, hr0, hr1, hr2, hcur1, hg1⟩
  obtain ⟨k, rfl⟩ : ∃ k : Nat, r = k := ⟨r.toNat, by omega⟩
  have hk : k < m := by omega
  obtain ⟨x, hx, hc⟩ := HL.out k hk
  have hc1 : w1.cell? ⟨b, k, none⟩ = some (.int .i64 x) := hg1.cell hc (fun e => hb (by cases e; rfl))
  clear hr2
  go_wp2_with fail
  go_ret
  exact ⟨x, rfl, hx, hcur1, hg1⟩

theorem pick_new (P : Int → Prop) (L : List Int) (T : TypeId) (cs : Array Value) (m cap : Nat) (g : Nat) (w : World) (hcur : Cur w g) (hcs : cs = (L.map fun x => Value.int .i64 x).toArray) (hm : m = L.length) (h0 : 0 < m) (hP : ∀ x ∈ L, P x) :
    Calls Tryd.prog 40 #[.pointer (some ⟨g, 0, none⟩), .slice (some ⟨w.heap.size, 0, none⟩) m cap] (w.alloc (.cells cs T)) (DrawnP P g w) := by
  have hlt := hcur.lt
  have hal : w.grownBy (w.alloc (.cells cs T)) none := gb_alloc (gb_refl _ _) _
  have hal2 : w.grownBy (w.alloc (.cells cs T)) (some g) := gb_alloc (gb_refl _ _) _
  refine (l01PickInt P w.heap.size m cap g _ (hcur.grown hal (fun k e => by cases e)) h0 (by omega) (by simp) ?_).mono ?_
  · intro k hk
    have hk' : k < L.length := by omega
    refine ⟨L[k], hP _ (List.getElem_mem hk'), ?_⟩
    rw [(Blk.new w T cs).cell k, hcs]
    simp [hk']
  · rintro e w' ⟨x, rfl, hx, hc, hg⟩
    exact ⟨x, rfl, hx, hc, gb_trans hal2 hg⟩

theorem pick_at (P : Int → Prop) (L : List Int) (T : TypeId) (cs : Array Value) (m cap b : Nat) (g : Nat) (w : World) (hb : b = w.heap.size) (hcur : Cur w g) (hcs : cs = (L.map fun x => Value.int .i64 x).toArray) (hm : m = L.length) (h0 : 0 < m) (hP : ∀ x ∈ L, P x) :
    Calls Tryd.prog 40 #[.pointer (some ⟨g, 0, none⟩), .slice (some ⟨b, 0, none⟩) m cap] (w.alloc (.cells cs T)) (DrawnP P g w) := by
  subst hb
  exact pick_new P L T cs m cap g w hcur hcs hm h0 hP

theorem i64_small {n : Int} (h0 : -1000 ≤ n) (h1 : n ≤ 1000000001) : IsI64 n := WalkArith.wf_i64 (by omega)
end Go.Proofs.YtcmlnokfjbglaaaDoor
end

section
namespace Go.Proofs.YtcmlnokfjbglaaaDoor
open Go.ChangeShapes Go.WideShapes Go.ChangeAt Go.RowKit
set_option linter.unusedVariables false

def okG (W H : Int) : Bool := decide (1 ≤ W ∧ W ≤ 4 ∧ 1 ≤ H ∧ H ≤ 4)
def countG (W H : Int) : Int := if okG W H then W * H else 0
def atG (W H x y : Int) : Int := if okG W H = true ∧ 0 ≤ x ∧ x < W ∧ 0 ≤ y ∧ y < H then y * W + x else -1
def hasG (W H n : Int) : Bool := decide (0 ≤ n ∧ n < countG W H)
def colG (W H n : Int) : Int := if hasG W H n then n % W else -1
def rowG (W H n : Int) : Int := if hasG W H n then n / W else -1
def absI (x : Int) : Int := if x < 0 then -x else x
def distG (W H a b : Int) : Int := if hasG W H a = true ∧ hasG W H b = true then absI (a % W - b % W) + absI (a / W - b / W) else -1
def diamG (W H : Int) : Int := if okG W H then W + H - 2 else -1

theorem okG_iff {W H : Int} : okG W H = true ↔ 1 ≤ W ∧ W ≤ 4 ∧ 1 ≤ H ∧ H ≤ 4 := by simp [okG]
theorem okG_cases {W H : Int} (h : okG W H = true) : (W = 1 ∨ W = 2 ∨ W = 3 ∨ W = 4) ∧ (H = 1 ∨ H = 2 ∨ H = 3 ∨ H = 4) := by
  rw [okG_iff] at h; omega
theorem countG_le (W H : Int) : 0 ≤ countG W H ∧ countG W H ≤ 16 := by
  unfold countG
  split
  · rename_i h
    rcases okG_cases h with ⟨h1, h2⟩
    rcases h1 with rfl | rfl | rfl | rfl <;> rcases h2 with rfl | rfl | rfl | rfl <;> decide
  · omega
theorem hasG_iff {W H n : Int} : hasG W H n = true ↔ 0 ≤ n ∧ n < countG W H := by simp [hasG]
theorem hasG_ok {W H n : Int} (h : hasG W H n = true) : okG W H = true ∧ 0 ≤ n ∧ n < W * H ∧ countG W H = W * H := by
  rw [hasG_iff] at h
  cases hok : okG W H with
  | true => have hc : countG W H = W * H := by simp [countG, hok]
            rw [hc] at h; exact ⟨rfl, h.1, h.2, hc⟩
  | false => have hc : countG W H = 0 := by simp [countG, hok]
             rw [hc] at h; omega

theorem hasG_le {W H n : Int} (h : hasG W H n = true) : 0 ≤ n ∧ n ≤ 15 := by
  rw [hasG_iff] at h; have := countG_le W H; omega
theorem row_wrap {W n : Int} (h0 : 0 ≤ n) (h1 : n ≤ 15) (hW : W = 1 ∨ W = 2 ∨ W = 3 ∨ W = 4) : wrap64 (n.tdiv W) = n / W := by
  rw [Int.tdiv_eq_ediv_of_nonneg h0]
  refine IntWalk.wrap64_in _ ?_
  rcases hW with rfl | rfl | rfl | rfl <;> omega
/-- Column and row of a node are in range, and give the node back. -/
theorem place_of {W H n : Int} (h : hasG W H n = true) : 0 ≤ n % W ∧ n % W < W ∧ 0 ≤ n / W ∧ n / W < H ∧ n / W * W + n % W = n := by
  obtain ⟨hok, h0, h1, _⟩ := hasG_ok h
  obtain ⟨hW, hH⟩ := okG_cases hok
  rcases hW with rfl | rfl | rfl | rfl <;> rcases hH with rfl | rfl | rfl | rfl <;> omega

theorem absI_nonneg (x : Int) : 0 ≤ absI x := by unfold absI; split <;> omega
theorem absI_neg (x : Int) : absI (-x) = absI x := by unfold absI; (repeat' split) <;> omega
theorem absI_swap (a b : Int) : absI (a - b) = absI (b - a) := by unfold absI; (repeat' split) <;> omega
theorem absI_tri (a b c : Int) : absI (a - c) ≤ absI (a - b) + absI (b - c) := by unfold absI; (repeat' split) <;> omega
theorem absI_lt {a b W : Int} (ha : 0 ≤ a) (ha' : a < W) (hb : 0 ≤ b) (hb' : b < W) : absI (a - b) ≤ W - 1 := by unfold absI; split <;> omega
theorem absI_zero {x : Int} : absI x = 0 ↔ x = 0 := by unfold absI; split <;> omega

theorem distG_ok {W H a b : Int} (ha : hasG W H a = true) (hb : hasG W H b = true) : distG W H a b = absI (a % W - b % W) + absI (a / W - b / W) := by simp [distG, ha, hb]
theorem distG_swap (W H a b : Int) : distG W H a b = distG W H b a := by
  unfold distG
  rw [absI_swap (a % W) (b % W), absI_swap (a / W) (b / W)]
  by_cases ha : hasG W H a = true <;> by_cases hb : hasG W H b = true <;> simp [ha, hb]
theorem distG_nonneg {W H a b : Int} (ha : hasG W H a = true) (hb : hasG W H b = true) : 0 ≤ distG W H a b := by
  rw [distG_ok ha hb]
  have := absI_nonneg (a % W - b % W); have := absI_nonneg (a / W - b / W); omega
theorem distG_zero {W H a b : Int} (ha : hasG W H a = true) (hb : hasG W H b = true) : distG W H a b = 0 ↔ a = b := by
  rw [distG_ok ha hb]
  have h1 := absI_nonneg (a % W - b % W); have h2 := absI_nonneg (a / W - b / W)
  constructor
  · intro h
    have e1 := absI_zero.1 (show absI (a % W - b % W) = 0 by omega)
    have e2 := absI_zero.1 (show absI (a / W - b / W) = 0 by omega)
    have pa := (place_of ha).2.2.2.2
    have pb := (place_of hb).2.2.2.2
    rw [← pa, ← pb, show a % W = b % W by omega, show a / W = b / W by omega]
  · rintro rfl
    simp [absI]
theorem distG_le {W H a b : Int} (ha : hasG W H a = true) (hb : hasG W H b = true) : distG W H a b ≤ diamG W H := by
  have hok := (hasG_ok ha).1
  rw [distG_ok ha hb]
  obtain ⟨a0, a1, a2, a3, _⟩ := place_of ha
  obtain ⟨b0, b1, b2, b3, _⟩ := place_of hb
  have h1 := absI_lt a0 a1 b0 b1
  have h2 := absI_lt a2 a3 b2 b3
  simp only [diamG, hok, if_true]
  omega
theorem distG_tri {W H a b c : Int} (ha : hasG W H a = true) (hb : hasG W H b = true) (hc : hasG W H c = true) : distG W H a c ≤ distG W H a b + distG W H b c := by
  rw [distG_ok ha hb, distG_ok ha hc, distG_ok hb hc]
  have h1 := absI_tri (a % W) (b % W) (c % W)
  have h2 := absI_tri (a / W) (b / W) (c / W)
  omega
theorem atG_place {W H n : Int} (h : hasG W H n = true) : atG W H (colG W H n) (rowG W H n) = n := by
  obtain ⟨h0, h1, h2, h3, h4⟩ := place_of h
  have hok := (hasG_ok h).1
  simp only [colG, rowG, h, if_true]
  unfold atG
  rw [if_pos ⟨hok, h0, h1, h2, h3⟩, h4]
/-- The greatest distance is that of opposite corners. -/
theorem diam_corner {W H : Int} (hok : okG W H = true) : distG W H 0 (W * H - 1) = diamG W H := by
  obtain ⟨hW, hH⟩ := okG_cases hok
  rcases hW with rfl | rfl | rfl | rfl <;> rcases hH with rfl | rfl | rfl | rfl <;> decide

end Go.Proofs.YtcmlnokfjbglaaaDoor
end

section
namespace Go.Proofs.YtcmlnokfjbglaaaDoor
open Go.ChangeShapes Go.WideShapes Go.ChangeAt Go.RowKit
set_option linter.unusedVariables false

/-- A grid with sides from 1 to 4 is returned; only the cursor and new blocks are written. -/
def DrawnGridC (g : Nat) (w : World) (e : Ending) (w' : World) : Prop := ∃ W H : Int, e = .returned (.agg #[.int .i64 W, .int .i64 H]) ∧ okG W H = true ∧ Cur w' g ∧ w.grownBy w' (some g)
def Side (n : Int) : Prop := 1 ≤ n ∧ n ≤ 4

theorem gb_set2 {a w : World} {row : Option Nat} {b : Nat} (h : a.grownBy w row) (hb : a.heap.size ≤ b) (x y : Value) : a.grownBy ((w.setCell ⟨b, 0, none⟩ x).setCell ⟨b, 1, none⟩ y) row :=
  gb_setCell (gb_setCell h (.inr hb) x) (.inr hb) y
theorem cur_set2 {w : World} {g b : Nat} (h : Cur w g) (hb : g < b) (x y : Value) : Cur ((w.setCell ⟨b, 0, none⟩ x).setCell ⟨b, 1, none⟩ y) g := by
  have hg : w.grownBy ((w.setCell ⟨b, 0, none⟩ x).setCell ⟨b, 1, none⟩ y) (some b) := gb_setCell (gb_setCell (gb_refl w (some b)) (.inl rfl) x) (.inl rfl) y
  exact h.grown hg (fun k e => by cases e; exact hb)

theorem l02Grid (g : Nat) (w : World) (hcur : Cur w g) :
    Calls Tryd.prog 24 #[.pointer (some ⟨g, 0, none⟩)] w (DrawnGridC g w) := by
  have hlt := hcur.lt
  have hc0 : Cur (w.alloc (.cells #[.int .i64 0, .int .i64 0] 25)) g := hcur.grown (gb_alloc (gb_refl _ none) _) (fun k e => by cases e)
  have HB := Lib.hid (Blk.new w 25 #[.int .i64 0, .int .i64 0])
  have HA := Lib.hid (show w.grownBy (w.alloc (.cells #[.int .i64 0, .int .i64 0] 25)) (some g) from gb_alloc (gb_refl _ _) _)
  clear hcur
  go_enter Tryd.func24, Tryd.ntmps24
  go_wp2_with fail
  refine (pick_at Side [1, 2, 2, 3, 3, 4] _ _ 6 6 _ g _ (by simp) hc0 rfl rfl (by omega) (by unfold Side; decide)).mono ?_
  rintro e w1 ⟨W, rfl, hW, hcur1, hg1⟩
  have hb1 := HB.out.grown hg1 (fun e => by cases e; omega)
  have HW := Lib.hid hW
  have HG1 := Lib.hid (gb_trans HA.out hg1)
  have HB1 := Lib.hid hb1
  clear hc0 hW hg1 hb1
  go_wp2_with fail
  refine (pick_at Side [1, 2, 2, 3, 3, 4] _ _ 6 6 _ g _ rfl hcur1 rfl rfl (by omega) (by unfold Side; decide)).mono ?_
  rintro e w2 ⟨H, rfl, hH, hcur2, hg2⟩
  have hb2 := HB1.out.grown hg2 (fun e => by cases e; omega)
  have HH := Lib.hid hH
  have HG2 := Lib.hid (gb_trans HG1.out hg2)
  have HB2 := Lib.hid hb2
  have HC2 := Lib.hid hcur2
  have c0 := hb2.cell 0
  have c1 := hb2.cell 1
  have f0 := hb2.frozen 0
  have f1 := hb2.frozen 1
  simp at c0 c1
  clear hcur1 hcur2 hg2 hb2
  go_wp2_with fail
  have d0 := (HB2.out.set_ 0 (.int .i64 W)).cell 1
  have d1 := ((HB2.out.set_ 0 (.int .i64 W)).set_ 1 (.int .i64 H)).cell 0
  have d2 := ((HB2.out.set_ 0 (.int .i64 W)).set_ 1 (.int .i64 H)).cell 1
  simp at d0 d1 d2
  refine bodyPost_ret (v := .agg #[.int .i64 W, .int .i64 H]) (by simp [results, Tryd.results24, go_sem, d1, d2]) rfl ⟨W, H, rfl, okG_iff.2 ⟨HW.out.1, HW.out.2, HH.out.1, HH.out.2⟩, ?_, ?_⟩
  · exact cur_set2 HC2.out hlt _ _
  · exact gb_set2 HG2.out (Nat.le_refl _) _ _
end Go.Proofs.YtcmlnokfjbglaaaDoor
end

section
namespace Go.Proofs.YtcmlnokfjbglaaaDoor
open Go.ChangeShapes Go.WideShapes Go.ChangeAt Go.RowKit
set_option linter.unusedVariables false

def nextG (W H n p : Int) : Int :=
  if hasG W H n then
    if p = 0 then atG W H (n % W) (n / W - 1)
    else if p = 1 then atG W H (n % W + 1) (n / W)
    else if p = 2 then atG W H (n % W) (n / W + 1)
    else if p = 3 then atG W H (n % W - 1) (n / W)
    else if p = 4 then n else -1
  else -1
def oppG (p : Int) : Int := if p = 0 then 2 else if p = 1 then 3 else if p = 2 then 0 else if p = 3 then 1 else if p = 4 then 4 else -1
def leadsG (W H c : Int) : Bool := decide (0 ≤ c ∧ c < 4 * countG W H ∧ 0 ≤ nextG W H (c / 4) (c % 4))
/-- Element i of the broken channels leads somewhere and is greater than the one before. -/
def goodAt (W H : Int) (L : List Int) (i : Nat) : Bool := leadsG W H (L.getD i 0) && (decide (i = 0) || decide (L.getD (i - 1) 0 < L.getD i 0))
def meshG (W H : Int) (L : List Int) : Bool := okG W H && (List.range L.length).all (goodAt W H L)
def inG (L : List Int) (c : Int) : Bool := L.contains c
def hasChG (W H : Int) (L : List Int) (c : Int) : Bool := leadsG W H c && !inG L c
def hasChannelG (W H : Int) (L : List Int) (c : Int) : Bool := meshG W H L && hasChG W H L c
/-- The channels below k. -/
def chansTo (W H : Int) (L : List Int) (k : Nat) : List Int := ((List.range k).map fun c : Nat => (c : Int)).filter (hasChG W H L)
def chansG (W H : Int) (L : List Int) : List Int := if meshG W H L then chansTo W H L (4 * countG W H).toNat else []
def portB (p : Int) : ByteArray := if p = 0 then ⟨#[110, 111, 114, 116, 104]⟩ else if p = 1 then ⟨#[101, 97, 115, 116]⟩ else if p = 2 then ⟨#[115, 111, 117, 116, 104]⟩ else if p = 3 then ⟨#[119, 101, 115, 116]⟩ else if p = 4 then ⟨#[108, 111, 99, 97, 108]⟩ else ⟨#[]⟩

theorem atG_le (W H x y : Int) : -1 ≤ atG W H x y ∧ atG W H x y ≤ 15 := by
  unfold atG
  split
  · rename_i h
    obtain ⟨hok, h0, h1, h2, h3⟩ := h
    obtain ⟨hW, hH⟩ := okG_cases hok
    rcases hW with rfl | rfl | rfl | rfl <;> rcases hH with rfl | rfl | rfl | rfl <;> omega
  · omega
theorem nextG_le (W H n p : Int) : -1 ≤ nextG W H n p ∧ nextG W H n p ≤ 15 := by
  unfold nextG
  split
  · rename_i h
    have := hasG_le h
    repeat' split
    all_goals first | exact atG_le _ _ _ _ | omega
  · omega
theorem nextG_has {W H n p : Int} (h : ¬ 0 ≤ p ∨ ¬ p ≤ 4) : nextG W H n p = -1 := by
  unfold nextG
  split
  · rw [if_neg (by omega), if_neg (by omega), if_neg (by omega), if_neg (by omega), if_neg (by omega)]
  · rfl

theorem chansTo_zero (W H : Int) (L : List Int) : chansTo W H L 0 = [] := rfl
theorem chansTo_yes {W H : Int} {L : List Int} {k : Nat} (h : hasChG W H L (k : Int) = true) : chansTo W H L (k + 1) = chansTo W H L k ++ [(k : Int)] := by
  unfold chansTo
  rw [List.range_succ, List.map_append, List.filter_append]
  simp [h]
theorem chansTo_no {W H : Int} {L : List Int} {k : Nat} (h : hasChG W H L (k : Int) = false) : chansTo W H L (k + 1) = chansTo W H L k := by
  unfold chansTo
  rw [List.range_succ, List.map_append, List.filter_append]
  simp [h]
theorem chansTo_le (W H : Int) (L : List Int) (k : Nat) : (chansTo W H L k).length ≤ k := by
  unfold chansTo
  refine Nat.le_trans (List.length_filter_le _ _) ?_
  simp

theorem chansG_le (W H : Int) (L : List Int) : (chansG W H L).length ≤ 64 := by
  unfold chansG
  split
  · have h1 := chansTo_le W H L (4 * countG W H).toNat
    have h2 := countG_le W H
    omega
  · simp
/-- The broken channels up to i are good; a bad one makes the mesh not valid. -/
def goodTo (W H : Int) (L : List Int) (i : Nat) : Prop := ∀ j, j < i → goodAt W H L j = true
theorem goodTo_zero (W H : Int) (L : List Int) : goodTo W H L 0 := fun j h => by omega
theorem goodTo_succ {W H : Int} {L : List Int} {i : Nat} (h : goodTo W H L i) (hi : goodAt W H L i = true) : goodTo W H L (i + 1) := fun j hj => by
  rcases Nat.lt_succ_iff_lt_or_eq.1 hj with h1 | rfl
  · exact h j h1
  · exact hi
theorem meshG_yes {W H : Int} {L : List Int} (hok : okG W H = true) (h : goodTo W H L L.length) : meshG W H L = true := by
  simp only [meshG, hok, Bool.true_and, List.all_eq_true]
  intro i hi
  exact h i (List.mem_range.1 hi)
theorem meshG_no {W H : Int} {L : List Int} {i : Nat} (hi : i < L.length) (h : goodAt W H L i = false) : meshG W H L = false := by
  rw [meshG]
  cases hok : okG W H with
  | false => rfl
  | true =>
    rw [Bool.true_and, List.all_eq_false]
    exact ⟨i, List.mem_range.2 hi, by rw [h]; decide⟩
theorem meshG_bad {W H : Int} {L : List Int} (h : okG W H = false) : meshG W H L = false := by simp [meshG, h]
theorem meshG_ok {W H : Int} {L : List Int} (h : meshG W H L = true) : okG W H = true ∧ goodTo W H L L.length := by
  simp only [meshG, Bool.and_eq_true, List.all_eq_true] at h
  exact ⟨h.1, fun j hj => h.2 j (List.mem_range.2 hj)⟩
theorem inG_no {L : List Int} {c : Int} (h : ∀ j, j < L.length → L.getD j 0 ≠ c) : inG L c = false := by
  unfold inG
  rw [List.contains_eq_any_beq, List.any_eq_false]
  intro x hx
  obtain ⟨j, hj, rfl⟩ := List.getElem_of_mem hx
  have := h j hj
  rw [List.getD_eq_getElem?_getD, List.getElem?_eq_getElem hj] at this
  simp only [Option.getD_some] at this
  simpa using fun e => this e.symm
theorem inG_yes {L : List Int} {c : Int} {j : Nat} (hj : j < L.length) (h : L.getD j 0 = c) : inG L c = true := by
  unfold inG
  rw [List.getD_eq_getElem?_getD, List.getElem?_eq_getElem hj] at h
  simp only [Option.getD_some] at h
  rw [List.contains_iff_mem, ← h]
  exact List.getElem_mem hj
theorem goodAt_lead {W H : Int} {L : List Int} {i : Nat} {x : Int} (hx : L.getD i 0 = x) (h : leadsG W H x = false) : goodAt W H L i = false := by simp only [goodAt, hx, h, Bool.false_and]
theorem goodAt_first {W H : Int} {L : List Int} {x : Int} (hx : L.getD 0 0 = x) (h : leadsG W H x = true) : goodAt W H L 0 = true := by
  simp only [goodAt, hx, h, decide_true, Bool.true_or, Bool.and_self]
theorem goodAt_next {W H : Int} {L : List Int} {j : Nat} {x y : Int} (hx : L.getD (j + 1) 0 = x) (hy : L.getD j 0 = y) (h : leadsG W H x = true) : goodAt W H L (j + 1) = decide (y < x) := by
  simp only [goodAt, Nat.add_sub_cancel, hx, hy, h, Bool.true_and]
  simp
end Go.Proofs.YtcmlnokfjbglaaaDoor
end

section
namespace Go.Proofs.YtcmlnokfjbglaaaDoor
open Go.ChangeShapes Go.WideShapes Go.ChangeAt Go.RowKit
set_option linter.unusedVariables false

theorem next_has {W H n p : Int} (h : 0 ≤ nextG W H n p) : hasG W H (nextG W H n p) = true := by
  have hat : ∀ x y, 0 ≤ atG W H x y → hasG W H (atG W H x y) = true := fun x y h => by
    unfold atG at h ⊢
    split at h
    · rename_i hc
      obtain ⟨hok, h0, h1, h2, h3⟩ := hc
      rw [if_pos ⟨hok, h0, h1, h2, h3⟩, hasG_iff]
      have hk : countG W H = W * H := by simp [countG, hok]
      obtain ⟨hW, hH⟩ := okG_cases hok
      rw [hk]
      rcases hW with rfl | rfl | rfl | rfl <;> rcases hH with rfl | rfl | rfl | rfl <;> omega
    · omega
  unfold nextG at h ⊢
  split at h
  · rename_i hh
    rw [if_pos hh]
    repeat' split at h
    all_goals first | omega | (simp [*] at *; done) | skip
  · omega
/-- The entry of a table of k nodes. -/
def tabG (k : Int) (P : List Int) (node to : Int) : Int := P.getD (node * k + to).toNat 0
def sizedG (W H : Int) (L P : List Int) : Bool := meshG W H L && decide ((P.length : Int) = countG W H * countG W H)
def askG (W H : Int) (L P : List Int) (node to : Int) : Bool := sizedG W H L P && hasG W H node && hasG W H to
def portAtG (W H : Int) (L P : List Int) (node to : Int) : Int :=
  if askG W H L P node to = true ∧ 0 ≤ tabG (countG W H) P node to ∧ tabG (countG W H) P node to ≤ 4 then tabG (countG W H) P node to else -1
/-- One step of a walk: the port leads through a channel that exists. -/
def stepsG (W H : Int) (L : List Int) (at' p : Int) : Bool := decide (0 ≤ p ∧ p ≤ 3) && hasChG W H L (4 * at' + p)
def walkF (W H : Int) (L P : List Int) (to : Int) : Nat → Int → Option (List Int)
  | 0, _ => none
  | f + 1, a =>
    if tabG (countG W H) P a to = 4 then (if a = to then some [] else none)
    else if stepsG W H L a (tabG (countG W H) P a to) then
      (walkF W H L P to f (nextG W H a (tabG (countG W H) P a to))).map ((4 * a + tabG (countG W H) P a to) :: ·)
    else none
def walkOf (W H : Int) (L P : List Int) (a b : Int) : List Int := (walkF W H L P b ((countG W H).toNat + 1) a).getD []
def walkG (W H : Int) (L P : List Int) (a b : Int) : List Int := if askG W H L P a b = true ∧ a ≠ b then walkOf W H L P a b else []
/-- Entry i of the square of nodes is in order. -/
def entryG (W H : Int) (L P : List Int) (a b : Int) : Bool :=
  if a = b then decide (tabG (countG W H) P a a = 4) else !(walkOf W H L P a b).isEmpty
def tableG (W H : Int) (L P : List Int) : Bool :=
  sizedG W H L P && (List.range (countG W H).toNat).all fun a => (List.range (countG W H).toNat).all fun b => entryG W H L P (a : Int) (b : Int)
/-- The number of channels of the walk of pair i. -/
def lenAt (W H : Int) (L P : List Int) (i : Nat) : Nat := (walkOf W H L P ((i : Int) / countG W H) ((i : Int) % countG W H)).length
def mostTo (W H : Int) (L P : List Int) : Nat → Nat
  | 0 => 0
  | k + 1 => max (mostTo W H L P k) (lenAt W H L P k)
def sqG (W H : Int) : Nat := (countG W H).toNat * (countG W H).toNat
def longG (W H : Int) (L P : List Int) : Int := if tableG W H L P then (mostTo W H L P (sqG W H) : Int) else -1
def minAt (W H : Int) (L P : List Int) (i : Nat) : Bool := decide ((lenAt W H L P i : Int) = distG W H ((i : Int) / countG W H) ((i : Int) % countG W H))
def minimalG (W H : Int) (L P : List Int) : Bool := tableG W H L P && (List.range (sqG W H)).all (minAt W H L P)

section
variable {W H : Int} {L P : List Int}
theorem sizedG_mesh (h : sizedG W H L P = true) : meshG W H L = true ∧ (P.length : Int) = countG W H * countG W H := by
  simpa [sizedG] using h
theorem askG_all {a b : Int} (h : askG W H L P a b = true) : sizedG W H L P = true ∧ hasG W H a = true ∧ hasG W H b = true := by
  simp only [askG, Bool.and_eq_true] at h; exact ⟨h.1.1, h.1.2, h.2⟩
/-- The place of an entry. -/
theorem tab_at {k a b : Int} {n : Nat} (h : (n : Int) = k * k) (ha0 : 0 ≤ a) (ha1 : a < k) (hb0 : 0 ≤ b) (hb1 : b < k) : 0 ≤ a * k + b ∧ a * k + b < n := by
  have h1 : 0 ≤ a * k := Int.mul_nonneg ha0 (by omega)
  have h2 : a * k ≤ (k - 1) * k := Int.mul_le_mul_of_nonneg_right (by omega) (by omega)
  have h3 : (k - 1) * k = k * k - k := by rw [Int.sub_mul, Int.one_mul]
  omega

theorem walkF_end {to a : Int} {f : Nat} (h : tabG (countG W H) P a to = 4) (he : a = to) : walkF W H L P to (f + 1) a = some [] := by subst he; simp [walkF, h]
theorem walkF_lost {to a : Int} {f : Nat} (h : tabG (countG W H) P a to = 4) (he : a ≠ to) : walkF W H L P to (f + 1) a = none := by simp [walkF, h, he]
theorem walkF_bad {to a p : Int} {f : Nat} (h : tabG (countG W H) P a to = p) (h4 : p ≠ 4) (hs : stepsG W H L a p = false) : walkF W H L P to (f + 1) a = none := by
  subst h; simp [walkF, h4, hs]
theorem walkF_go {to a p : Int} {f : Nat} (h : tabG (countG W H) P a to = p) (h4 : p ≠ 4) (hs : stepsG W H L a p = true) : walkF W H L P to (f + 1) a = (walkF W H L P to f (nextG W H a p)).map ((4 * a + p) :: ·) := by
  subst h; simp [walkF, h4, hs]
/-- A walk of which the first channels are known. -/
def restG (W H : Int) (L P : List Int) (to : Int) (acc : List Int) (f : Nat) (a : Int) : List Int := ((walkF W H L P to f a).map (acc ++ ·)).getD []
theorem rest_start (a b : Int) : restG W H L P b [] ((countG W H).toNat + 1) a = walkOf W H L P a b := by
  unfold restG walkOf
  cases walkF W H L P b ((countG W H).toNat + 1) a <;> simp
theorem rest_zero (to a : Int) (acc : List Int) : restG W H L P to acc 0 a = [] := rfl
theorem rest_end {to a : Int} {f : Nat} {acc : List Int} (h : tabG (countG W H) P a to = 4) (he : a = to) : restG W H L P to acc (f + 1) a = acc := by simp [restG, walkF_end h he]
theorem rest_lost {to a : Int} {f : Nat} {acc : List Int} (h : tabG (countG W H) P a to = 4) (he : a ≠ to) : restG W H L P to acc (f + 1) a = [] := by simp [restG, walkF_lost h he]
theorem rest_bad {to a p : Int} {f : Nat} {acc : List Int} (h : tabG (countG W H) P a to = p) (h4 : p ≠ 4) (hs : stepsG W H L a p = false) : restG W H L P to acc (f + 1) a = [] := by simp [restG, walkF_bad h h4 hs]
theorem rest_go {to a p : Int} {f : Nat} {acc : List Int} (h : tabG (countG W H) P a to = p) (h4 : p ≠ 4) (hs : stepsG W H L a p = true) : restG W H L P to acc (f + 1) a = restG W H L P to (acc ++ [4 * a + p]) f (nextG W H a p) := by
  simp only [restG, walkF_go h h4 hs, Option.map_map]
  congr 2
  funext x
  simp
theorem steps_next {a p : Int} (h : stepsG W H L a p = true) : 0 ≤ p ∧ p ≤ 3 ∧ hasChG W H L (4 * a + p) = true := by
  simp only [stepsG, Bool.and_eq_true, decide_eq_true_eq] at h; exact ⟨h.1.1, h.1.2, h.2⟩
theorem step_has {a p : Int} (h : stepsG W H L a p = true) : hasG W H (nextG W H a p) = true := by
  obtain ⟨h0, h3, hc⟩ := steps_next h
  simp only [hasChG, Bool.and_eq_true] at hc
  have h1 : 0 ≤ 4 * a + p ∧ 4 * a + p < 4 * countG W H ∧ 0 ≤ nextG W H ((4 * a + p) / 4) ((4 * a + p) % 4) := by simpa [leadsG] using hc.1
  have e1 : (4 * a + p) / 4 = a := by omega
  have e2 : (4 * a + p) % 4 = p := by omega
  rw [e1, e2] at h1
  exact next_has h1.2.2
theorem walkF_len {to : Int} : ∀ (f : Nat) (a : Int) (l : List Int), walkF W H L P to f a = some l → l.length < f
  | 0, _, _, h => by simp [walkF] at h
  | f + 1, a, l, h => by
    rw [walkF] at h
    split at h
    · split at h
      · cases h; simp
      · cases h
    · split at h
      · rw [Option.map_eq_some_iff] at h
        obtain ⟨m, hm, rfl⟩ := h
        have := walkF_len f _ m hm
        simp; omega
      · cases h
theorem walkOf_len (a b : Int) : (walkOf W H L P a b).length ≤ 16 := by
  unfold walkOf
  have hc := countG_le W H
  cases h : walkF W H L P b ((countG W H).toNat + 1) a with
  | none => simp
  | some l => have := walkF_len _ _ _ h; simp; omega

/-- The pairs of nodes up to i are in order. -/
def pairsTo (W H : Int) (L P : List Int) (a b : Nat) : Prop :=
  (∀ x y : Nat, x < a → (y : Int) < countG W H → entryG W H L P x y = true) ∧ ∀ y : Nat, y < b → entryG W H L P a y = true
theorem pairs_zero : pairsTo W H L P 0 0 := ⟨fun _ _ h => by omega, fun _ h => by omega⟩
theorem pairs_next {a b : Nat} (h : pairsTo W H L P a b) (he : entryG W H L P a b = true) : pairsTo W H L P a (b + 1) :=
  ⟨h.1, fun y hy => by
    rcases Nat.lt_succ_iff_lt_or_eq.1 hy with h1 | rfl
    · exact h.2 y h1
    · exact he⟩
theorem pairs_row {a b : Nat} (h : pairsTo W H L P a b) (hb : (b : Int) = countG W H) : pairsTo W H L P (a + 1) 0 :=
  ⟨fun x y hx hy => by
    rcases Nat.lt_succ_iff_lt_or_eq.1 hx with h1 | rfl
    · exact h.1 x y h1 hy
    · exact h.2 y (by omega), fun _ h => by omega⟩
theorem tableG_yes {a b : Nat} (hs : sizedG W H L P = true) (h : pairsTo W H L P a b) (ha : (a : Int) = countG W H) : tableG W H L P = true := by
  simp only [tableG, hs, Bool.true_and, List.all_eq_true, List.mem_range]
  intro x hx y hy
  exact h.1 x y (by omega) (by omega)
theorem tableG_no {a b : Nat} (ha : (a : Int) < countG W H) (hb : (b : Int) < countG W H) (h : entryG W H L P a b = false) : tableG W H L P = false := by
  cases ht : tableG W H L P with
  | false => rfl
  | true =>
    simp only [tableG, Bool.and_eq_true, List.all_eq_true, List.mem_range] at ht
    have := ht.2 a (by omega) b (by omega)
    rw [h] at this
    cases this
theorem tableG_unsized (h : sizedG W H L P = false) : tableG W H L P = false := by simp [tableG, h]
theorem tableG_sized (h : tableG W H L P = true) : sizedG W H L P = true := by simp only [tableG, Bool.and_eq_true] at h; exact h.1
theorem tableG_entry {a b : Int} (h : tableG W H L P = true) (ha : hasG W H a = true) (hb : hasG W H b = true) : entryG W H L P a b = true := by
  simp only [tableG, Bool.and_eq_true, List.all_eq_true, List.mem_range] at h
  have h1 := hasG_iff.1 ha
  have h2 := hasG_iff.1 hb
  have := h.2 a.toNat (by omega) b.toNat (by omega)
  rwa [Int.toNat_of_nonneg h1.1, Int.toNat_of_nonneg h2.1] at this
theorem entry_same {a : Int} : entryG W H L P a a = decide (tabG (countG W H) P a a = 4) := by simp [entryG]
theorem entry_two {a b : Int} (h : a ≠ b) : entryG W H L P a b = !(walkOf W H L P a b).isEmpty := by simp [entryG, h]

theorem mostTo_le {i k : Nat} (h : i < k) : lenAt W H L P i ≤ mostTo W H L P k := by
  induction k with
  | zero => omega
  | succ k ih =>
    rw [mostTo]
    rcases Nat.lt_succ_iff_lt_or_eq.1 h with h1 | rfl
    · exact Nat.le_trans (ih h1) (Nat.le_max_left _ _)
    · exact Nat.le_max_right _ _
theorem mostTo_16 (k : Nat) : mostTo W H L P k ≤ 16 := by
  induction k with
  | zero => simp [mostTo]
  | succ k ih => rw [mostTo]; have := walkOf_len (W := W) (H := H) (L := L) (P := P) ((k : Int) / countG W H) ((k : Int) % countG W H); unfold lenAt; omega
/-- Pair i of the square is two nodes. -/
theorem pair_at {i : Nat} (h : i < sqG W H) : hasG W H ((i : Int) / countG W H) = true ∧ hasG W H ((i : Int) % countG W H) = true := by
  have hc := countG_le W H
  unfold sqG at h
  have hk : 0 < countG W H := by
    rcases Int.lt_or_le 0 (countG W H) with h1 | h1
    · exact h1
    · have : (countG W H).toNat = 0 := by omega
      rw [this] at h; omega
  have e : (i : Int) < countG W H * countG W H := by
    have : ((countG W H).toNat : Int) = countG W H := Int.toNat_of_nonneg hc.1
    rw [← this]; exact_mod_cast h
  exact ⟨hasG_iff.2 ⟨Int.ediv_nonneg (by omega) hc.1, Int.ediv_lt_of_lt_mul hk e⟩, hasG_iff.2 ⟨Int.emod_nonneg _ (by omega), Int.emod_lt_of_pos _ hk⟩⟩
theorem sq_int (W H : Int) : (sqG W H : Int) = countG W H * countG W H := by
  have := countG_le W H
  unfold sqG
  rw [Int.natCast_mul, Int.toNat_of_nonneg this.1]
theorem sq_le (W H : Int) : sqG W H ≤ 256 := by
  have h := countG_le W H
  have : (countG W H).toNat ≤ 16 := by omega
  exact Nat.mul_le_mul this this
theorem walk_le {a b : Int} (ha : hasG W H a = true) (hb : hasG W H b = true) : (walkOf W H L P a b).length ≤ mostTo W H L P (sqG W H) := by
  have h1 := hasG_iff.1 ha
  have h2 := hasG_iff.1 hb
  have h3 := tab_at (k := countG W H) (n := sqG W H) (sq_int W H) h1.1 h1.2 h2.1 h2.2
  have e1 : (((a * countG W H + b).toNat : Nat) : Int) = a * countG W H + b := Int.toNat_of_nonneg h3.1
  have e2 : (a * countG W H + b) / countG W H = a := by
    rw [Int.add_comm, Int.add_mul_ediv_right _ _ (by omega), Int.ediv_eq_zero_of_lt h2.1 h2.2]; omega
  have e3 : (a * countG W H + b) % countG W H = b := by
    rw [Int.add_comm, Int.add_mul_emod_self_right]; exact Int.emod_eq_of_lt h2.1 h2.2
  have := mostTo_le (W := W) (H := H) (L := L) (P := P) (i := (a * countG W H + b).toNat) (k := sqG W H) (by omega)
  unfold lenAt at this
  rwa [e1, e2, e3] at this
/-- The first k pairs are minimal. -/
def minTo (W H : Int) (L P : List Int) (k : Nat) : Prop := ∀ i, i < k → minAt W H L P i = true
theorem minTo_zero : minTo W H L P 0 := fun _ h => by omega
theorem minTo_succ {k : Nat} (h : minTo W H L P k) (hk : minAt W H L P k = true) : minTo W H L P (k + 1) := fun i hi => by
  rcases Nat.lt_succ_iff_lt_or_eq.1 hi with h1 | rfl
  · exact h i h1
  · exact hk
theorem minimalG_yes (ht : tableG W H L P = true) (h : minTo W H L P (sqG W H)) : minimalG W H L P = true := by
  simp only [minimalG, ht, Bool.true_and, List.all_eq_true, List.mem_range]; exact h
theorem minimalG_no {i : Nat} (hi : i < sqG W H) (h : minAt W H L P i = false) : minimalG W H L P = false := by
  cases hm : minimalG W H L P with
  | false => rfl
  | true =>
    simp only [minimalG, Bool.and_eq_true, List.all_eq_true, List.mem_range] at hm
    have := hm.2 i hi
    rw [h] at this
    cases this
theorem minimalG_bad (h : tableG W H L P = false) : minimalG W H L P = false := by simp [minimalG, h]
end
end Go.Proofs.YtcmlnokfjbglaaaDoor
end

section
namespace Go.Proofs.YtcmlnokfjbglaaaDoor
open Go.ChangeShapes Go.WideShapes Go.ChangeAt Go.RowKit
set_option linter.unusedVariables false

def colPort (x u : Int) : Int := if u < x then 3 else 1
def rowPort (y v : Int) : Int := if v < y then 0 else 2
def mixRule (r b : Int) : Int := if r = 4 then 1 + b % 2 else r
/-- Does the rule take the column first? -/
def firstG (r x y u v : Int) : Bool := if r = 2 then decide (y = v) else if r = 3 then decide (u < x) || decide (y = v) else decide (x ≠ u)
def stdPort (W r a b : Int) : Int :=
  if a = b then 4 else if firstG (mixRule r b) (a % W) (a / W) (b % W) (b / W) then colPort (a % W) (b % W) else rowPort (a / W) (b / W)
def stdTo (W H r : Int) (k : Nat) : List Int := (List.range k).map fun i : Nat => stdPort W r ((i : Int) / countG W H) ((i : Int) % countG W H)
def stdTab (W H r : Int) : List Int := stdTo W H r (sqG W H)
def stdGood (W H r : Int) : Bool := minimalG W H [] (stdTab W H r) && decide ((mostTo W H [] (stdTab W H r) (sqG W H) : Int) = diamG W H)

theorem std_111 : stdGood 1 1 1 = true := by decide +kernel
theorem std_112 : stdGood 1 1 2 = true := by decide +kernel
theorem std_113 : stdGood 1 1 3 = true := by decide +kernel
theorem std_114 : stdGood 1 1 4 = true := by decide +kernel
theorem std_121 : stdGood 1 2 1 = true := by decide +kernel
theorem std_122 : stdGood 1 2 2 = true := by decide +kernel
theorem std_123 : stdGood 1 2 3 = true := by decide +kernel
theorem std_124 : stdGood 1 2 4 = true := by decide +kernel
theorem std_131 : stdGood 1 3 1 = true := by decide +kernel
theorem std_132 : stdGood 1 3 2 = true := by decide +kernel
theorem std_133 : stdGood 1 3 3 = true := by decide +kernel
theorem std_134 : stdGood 1 3 4 = true := by decide +kernel
theorem std_141 : stdGood 1 4 1 = true := by decide +kernel
theorem std_142 : stdGood 1 4 2 = true := by decide +kernel
theorem std_143 : stdGood 1 4 3 = true := by decide +kernel
theorem std_144 : stdGood 1 4 4 = true := by decide +kernel
theorem std_211 : stdGood 2 1 1 = true := by decide +kernel
theorem std_212 : stdGood 2 1 2 = true := by decide +kernel
theorem std_213 : stdGood 2 1 3 = true := by decide +kernel
theorem std_214 : stdGood 2 1 4 = true := by decide +kernel
theorem std_221 : stdGood 2 2 1 = true := by decide +kernel
theorem std_222 : stdGood 2 2 2 = true := by decide +kernel
theorem std_223 : stdGood 2 2 3 = true := by decide +kernel
theorem std_224 : stdGood 2 2 4 = true := by decide +kernel
theorem std_231 : stdGood 2 3 1 = true := by decide +kernel
theorem std_232 : stdGood 2 3 2 = true := by decide +kernel
theorem std_233 : stdGood 2 3 3 = true := by decide +kernel
theorem std_234 : stdGood 2 3 4 = true := by decide +kernel
theorem std_241 : stdGood 2 4 1 = true := by decide +kernel
theorem std_242 : stdGood 2 4 2 = true := by decide +kernel
theorem std_243 : stdGood 2 4 3 = true := by decide +kernel
theorem std_244 : stdGood 2 4 4 = true := by decide +kernel
theorem std_311 : stdGood 3 1 1 = true := by decide +kernel
theorem std_312 : stdGood 3 1 2 = true := by decide +kernel
theorem std_313 : stdGood 3 1 3 = true := by decide +kernel
theorem std_314 : stdGood 3 1 4 = true := by decide +kernel
theorem std_321 : stdGood 3 2 1 = true := by decide +kernel
theorem std_322 : stdGood 3 2 2 = true := by decide +kernel
theorem std_323 : stdGood 3 2 3 = true := by decide +kernel
theorem std_324 : stdGood 3 2 4 = true := by decide +kernel
theorem std_331 : stdGood 3 3 1 = true := by decide +kernel
theorem std_332 : stdGood 3 3 2 = true := by decide +kernel
theorem std_333 : stdGood 3 3 3 = true := by decide +kernel
theorem std_334 : stdGood 3 3 4 = true := by decide +kernel
theorem std_341 : stdGood 3 4 1 = true := by decide +kernel
theorem std_342 : stdGood 3 4 2 = true := by decide +kernel
theorem std_343 : stdGood 3 4 3 = true := by decide +kernel
theorem std_344 : stdGood 3 4 4 = true := by decide +kernel
theorem std_411 : stdGood 4 1 1 = true := by decide +kernel
theorem std_412 : stdGood 4 1 2 = true := by decide +kernel
theorem std_413 : stdGood 4 1 3 = true := by decide +kernel
theorem std_414 : stdGood 4 1 4 = true := by decide +kernel
theorem std_421 : stdGood 4 2 1 = true := by decide +kernel
theorem std_422 : stdGood 4 2 2 = true := by decide +kernel
theorem std_423 : stdGood 4 2 3 = true := by decide +kernel
theorem std_424 : stdGood 4 2 4 = true := by decide +kernel
theorem std_431 : stdGood 4 3 1 = true := by decide +kernel
theorem std_432 : stdGood 4 3 2 = true := by decide +kernel
theorem std_433 : stdGood 4 3 3 = true := by decide +kernel
theorem std_434 : stdGood 4 3 4 = true := by decide +kernel
theorem std_441 : stdGood 4 4 1 = true := by decide +kernel
theorem std_442 : stdGood 4 4 2 = true := by decide +kernel
theorem std_443 : stdGood 4 4 3 = true := by decide +kernel
theorem std_444 : stdGood 4 4 4 = true := by decide +kernel
theorem std_good {W H r : Int} (h : okG W H = true) (h1 : 1 ≤ r) (h4 : r ≤ 4) : stdGood W H r = true := by
  obtain ⟨hW, hH⟩ := okG_cases h
  have hr : r = 1 ∨ r = 2 ∨ r = 3 ∨ r = 4 := by omega
  clear h h1 h4
  rcases hW with rfl | rfl | rfl | rfl
  · rcases hH with rfl | rfl | rfl | rfl
    · rcases hr with rfl | rfl | rfl | rfl
      · exact std_111
      · exact std_112
      · exact std_113
      · exact std_114
    · rcases hr with rfl | rfl | rfl | rfl
      · exact std_121
      · exact std_122
      · exact std_123
      · exact std_124
    · rcases hr with rfl | rfl | rfl | rfl
      · exact std_131
      · exact std_132
      · exact std_133
      · exact std_134
    · rcases hr with rfl | rfl | rfl | rfl
      · exact std_141
      · exact std_142
      · exact std_143
      · exact std_144
  · rcases hH with rfl | rfl | rfl | rfl
    · rcases hr with rfl | rfl | rfl | rfl
      · exact std_211
      · exact std_212
      · exact std_213
      · exact std_214
    · rcases hr with rfl | rfl | rfl | rfl
      · exact std_221
      · exact std_222
      · exact std_223
      · exact std_224
    · rcases hr with rfl | rfl | rfl | rfl
      · exact std_231
      · exact std_232
      · exact std_233
      · exact std_234
    · rcases hr with rfl | rfl | rfl | rfl
      · exact std_241
      · exact std_242
      · exact std_243
      · exact std_244
  · rcases hH with rfl | rfl | rfl | rfl
    · rcases hr with rfl | rfl | rfl | rfl
      · exact std_311
      · exact std_312
      · exact std_313
      · exact std_314
    · rcases hr with rfl | rfl | rfl | rfl
      · exact std_321
      · exact std_322
      · exact std_323
      · exact std_324
    · rcases hr with rfl | rfl | rfl | rfl
      · exact std_331
      · exact std_332
      · exact std_333
      · exact std_334
    · rcases hr with rfl | rfl | rfl | rfl
      · exact std_341
      · exact std_342
      · exact std_343
      · exact std_344
  · rcases hH with rfl | rfl | rfl | rfl
    · rcases hr with rfl | rfl | rfl | rfl
      · exact std_411
      · exact std_412
      · exact std_413
      · exact std_414
    · rcases hr with rfl | rfl | rfl | rfl
      · exact std_421
      · exact std_422
      · exact std_423
      · exact std_424
    · rcases hr with rfl | rfl | rfl | rfl
      · exact std_431
      · exact std_432
      · exact std_433
      · exact std_434
    · rcases hr with rfl | rfl | rfl | rfl
      · exact std_441
      · exact std_442
      · exact std_443
      · exact std_444
theorem std_facts {W H r : Int} (h : okG W H = true) (h1 : 1 ≤ r) (h4 : r ≤ 4) : tableG W H [] (stdTab W H r) = true ∧ minimalG W H [] (stdTab W H r) = true ∧ longG W H [] (stdTab W H r) = diamG W H := by
  have hg := std_good h h1 h4
  simp only [stdGood, Bool.and_eq_true, decide_eq_true_eq] at hg
  have ht : tableG W H [] (stdTab W H r) = true := by have := hg.1; simp only [minimalG, Bool.and_eq_true] at this; exact this.1
  exact ⟨ht, hg.1, by rw [longG, if_pos ht]; exact hg.2⟩
theorem stdTo_succ (W H r : Int) (k : Nat) : stdTo W H r (k + 1) = stdTo W H r k ++ [stdPort W r ((k : Int) / countG W H) ((k : Int) % countG W H)] := by
  simp [stdTo, List.range_succ]
theorem stdTo_len (W H r : Int) (k : Nat) : (stdTo W H r k).length = k := by simp [stdTo]
theorem stdPort_le (W r a b : Int) : 0 ≤ stdPort W r a b ∧ stdPort W r a b ≤ 4 := by
  unfold stdPort colPort rowPort
  repeat' split
  all_goals omega
end Go.Proofs.YtcmlnokfjbglaaaDoor
end

section
namespace Go.Proofs.YtcmlnokfjbglaaaDoor
open Go.ChangeShapes Go.WideShapes Go.ChangeAt Go.RowKit
set_option linter.unusedVariables false

theorem own_form {w : World} {base : Nat} {e : TypeId} {size n : Nat} {v : Value} {xs : List Value} (h : w.ownsRow base e size v n xs) :
    ∃ A cap, v = .slice A n cap ∧ (0 < n → ∃ g, A = some ⟨g, 0, none⟩) := by
  rcases h.2 with ⟨rfl, rfl⟩ | ⟨g, cap, cur, rfl, _⟩
  · exact ⟨none, 0, rfl, fun h => absurd h (by omega)⟩
  · exact ⟨_, cap, rfl, fun _ => ⟨g, rfl⟩⟩
theorem own_le {w : World} {base : Nat} {e : TypeId} {size n : Nat} {v : Value} {xs : List Value} (h : w.ownsRow base e size v n xs) : n ≤ maxLen := by
  rcases h.2 with ⟨rfl, rfl⟩ | ⟨g, cap, cur, rfl, _, _, h1, h2, _⟩
  · exact Nat.zero_le _
  · exact Nat.le_trans h1 h2
theorem own_drewN {w : World} {base : Nat} {e : TypeId} {size n : Nat} {v : Value} {xs : List Value} (h : w.ownsRow base e size v n xs) (m : Nat) : (w.drewN m).ownsRow base e size v n xs := h

def strsV (l : List ByteArray) : List Value := l.map Value.string
theorem strsV_append (a b : List ByteArray) : strsV (a ++ b) = strsV a ++ strsV b := by simp [strsV]
def byteOf (s : ByteArray) (i : Nat) : Nat := (s.data.toList.getD i 0).toNat
theorem byteOf_lt (s : ByteArray) (i : Nat) : byteOf s i < 256 := (s.data.toList.getD i 0).toNat_lt
theorem byteOf_get (s : ByteArray) (i : Nat) (h : i < s.size) : s[i].toNat = byteOf s i := by
  unfold byteOf
  rw [List.getD_eq_getElem?_getD, List.getElem?_eq_getElem (by simpa using h)]; rfl
def RetS (s : ByteArray) (w : World) (e : Ending) (w' : World) : Prop := e = .returned (.string s) ∧ w.grownBy w' none

def RetB (b : Bool) (w : World) (e : Ending) (w' : World) : Prop := e = .returned (.bool b) ∧ w.grownBy w' none
def RetI (k : Int) (row : Option Nat) (w : World) (e : Ending) (w' : World) : Prop := e = .returned (.int .i64 k) ∧ w.grownBy w' row

theorem gb_of_none {a b : World} (h : a.grownBy b none) (row : Option Nat) : a.grownBy b row := ⟨h.os, h.tape, h.output, h.size, fun i hi _ => h.block i hi (by simp)⟩
theorem strs_cell {w : World} {base : Nat} {n g cap : Nat} {l : List ByteArray} (h : w.ownsRow base 9 1 (.slice (some ⟨g, 0, none⟩) n cap) n (strsV l)) (k : Nat) (hk : k < n) (hl : l.length = n) :
    w.cell? ⟨g, k, none⟩ = some (.string l[k]) := by
  rw [h.cellAt k (by omega)]
  simp [strsV]

/-- A row of the call's own stays over a call that writes new blocks alone. -/
theorem own_below {w w' : World} {base : Nat} {e : TypeId} {size n : Nat} {v : Value} {xs : List Value} (h : w.ownsRow base e size v n xs) (hb : Below w.heap.size w w') : w'.ownsRow base e size v n xs :=
  h.kept (gb_of_below hb none) (by cases hv : v.ownBlock <;> simp)
theorem own_none {w w' : World} {base : Nat} {e : TypeId} {size n : Nat} {v : Value} {xs : List Value} (h : w.ownsRow base e size v n xs) (hb : w.grownBy w' none) : w'.ownsRow base e size v n xs :=
  h.kept hb (by cases hv : v.ownBlock <;> simp)
theorem own_apart {w w' : World} {b1 b2 : Nat} {e1 e2 : TypeId} {s1 s2 n1 n2 : Nat} {v1 v2 : Value} {x1 x2 : List Value} (h1 : w.ownsRow b1 e1 s1 v1 n1 x1) (hlt : ∀ k, v1.ownBlock = some k → k < b2) (h2 : w.ownsRow b2 e2 s2 v2 n2 x2) (hg : w.grownBy w' v2.ownBlock) : w'.ownsRow b1 e1 s1 v1 n1 x1 :=
  h1.kept hg (by
    cases hv : v1.ownBlock with
    | none => exact .inl rfl
    | some k => exact .inr (fun e => by have := hlt k hv; have := (h2.lt k e.symm).1; omega))
theorem info_str : (Tryd.prog.info? 9).map (fun i => (i.zero, i.size, i.bytes)) = some (some (.string ⟨#[]⟩), 1, 16) := by kernel_rfl

end Go.Proofs.YtcmlnokfjbglaaaDoor
end

section
namespace Go.Proofs.YtcmlnokfjbglaaaDoor
open Go.ChangeShapes Go.WideShapes Go.ChangeAt Go.RowKit
set_option linter.unusedVariables false

theorem specIn (x lo hi : Int) (w : World) :
    Calls Tryd.prog 66 #[.int .i64 x, .int .i64 lo, .int .i64 hi] w fun e w' => e = .returned (.bool (decide (lo ≤ x ∧ x ≤ hi))) ∧ w = w' := by
  by_cases h1 : lo ≤ x
  all_goals
    go_enter Tryd.func66, Tryd.ntmps66
    go_wp2
    all_goals go_ret
    all_goals exact ⟨ret_bool (by simp <;> omega), rfl⟩

theorem specInV (x lo hi : Int) (b : Bool) (hb : decide (lo ≤ x ∧ x ≤ hi) = b) (w : World) :
    Calls Tryd.prog 66 #[.int .i64 x, .int .i64 lo, .int .i64 hi] w fun e w' => e = .returned (.bool b) ∧ w = w' := hb ▸ specIn x lo hi w

theorem box_blk {w w1 : World} {T : TypeId} {cs : Array Value} (h : (w.alloc (.cells cs T)).grownBy w1 none) : Blk w1 w.heap.size T cs := (Blk.new w T cs).grown h (by simp)
theorem box_gb {w w1 : World} {o : Obj} (h : (w.alloc o).grownBy w1 none) : w.grownBy w1 none := gb_trans (gb_alloc (gb_refl _ _) _) h

end Go.Proofs.YtcmlnokfjbglaaaDoor
end

section
namespace Go.Proofs.YtcmlnokfjbglaaaDoor
open Go.ChangeShapes Go.WideShapes Go.ChangeAt Go.RowKit
set_option linter.unusedVariables false

/-- A grid as a value. -/
def gridV (W H : Int) : Value := .agg #[.int .i64 W, .int .i64 H]
def gridC (W H : Int) : Array Value := #[.int .i64 W, .int .i64 H]

theorem specGridOk (W H : Int) (w : World) :
    Calls Tryd.prog 57 #[.agg #[.int .i64 W, .int .i64 H]] w (RetB (okG W H) w) := by
  by_cases h1 : 1 ≤ W ∧ W ≤ 4
  · by_cases h2 : 1 ≤ H ∧ H ≤ 4
    all_goals
      go_enter Tryd.func57, Tryd.ntmps57
      go_wp2_with fail
      refine (specInV W 1 4 true (by simpa using h1) _).mono ?_
      rintro e w1 ⟨rfl, rfl⟩
      go_wp2_with fail
      first
      | refine (specInV H 1 4 true (by simpa using h2) _).mono ?_
      | refine (specInV H 1 4 false (by simpa using h2) _).mono ?_
      rintro e w1 ⟨rfl, rfl⟩
      go_wp2_with fail
      go_ret
      exact ⟨ret_bool (by simp [okG]; omega), gb_alloc (gb_refl _ _) _⟩
  · go_enter Tryd.func57, Tryd.ntmps57
    go_wp2_with fail
    refine (specInV W 1 4 false (by simpa using h1) _).mono ?_
    rintro e w1 ⟨rfl, rfl⟩
    go_wp2_with fail
    go_ret
    exact ⟨ret_bool (by simp [okG]; omega), gb_alloc (gb_refl _ _) _⟩

theorem specNodeCount (W H : Int) (w : World) :
    Calls Tryd.prog 41 #[.agg #[.int .i64 W, .int .i64 H]] w (RetI (countG W H) none w) := by
  cases hok : okG W H with
  | true =>
    obtain ⟨hW, hH⟩ := okG_cases hok
    have hm : wrap64 (W * H) = countG W H := by
      simp only [countG, hok, if_true]
      rcases hW with rfl | rfl | rfl | rfl <;> rcases hH with rfl | rfl | rfl | rfl <;> exact IntWalk.wrap64_in _ (by omega)
    have Hm := Lib.hid hm
    clear hW hH hm
    go_enter Tryd.func41, Tryd.ntmps41
    go_wp2_with fail
    refine (specGridOk W H _).mono ?_
    rintro e w1 ⟨rfl, hg⟩
    have hb := box_blk hg
    have c0 : w1.cell? ⟨w.heap.size, 0, none⟩ = some (.int .i64 W) := hb.cell 0
    have c1 : w1.cell? ⟨w.heap.size, 1, none⟩ = some (.int .i64 H) := hb.cell 1
    have Hg := Lib.hid hg
    clear hg hb
    rw [hok]
    go_wp2_with fail
    go_ret
    exact ⟨ret_int64 (by rw [← Hm.out]), box_gb Hg.out⟩
  | false =>
    go_enter Tryd.func41, Tryd.ntmps41
    go_wp2_with fail
    refine (specGridOk W H _).mono ?_
    rintro e w1 ⟨rfl, hg⟩
    rw [hok]
    go_wp2_with fail
    go_ret
    exact ⟨ret_int64 (by simp [countG, hok]), box_gb hg⟩
end Go.Proofs.YtcmlnokfjbglaaaDoor
end

section
namespace Go.Proofs.YtcmlnokfjbglaaaDoor
open Go.ChangeShapes Go.WideShapes Go.ChangeAt Go.RowKit
set_option linter.unusedVariables false
set_option linter.unusedSimpArgs false

theorem specColumn (x u : Int) (w : World) :
    Calls Tryd.prog 58 #[.int .i64 x, .int .i64 u] w fun e w' => e = .returned (.int .i64 (colPort x u)) ∧ w = w' := by
  by_cases h : u < x
  all_goals
    go_enter Tryd.func58, Tryd.ntmps58
    go_wp2_with fail
    go_ret
    exact ⟨ret_int64 (by simp [colPort, h]), rfl⟩
theorem specRow (y v : Int) (w : World) :
    Calls Tryd.prog 59 #[.int .i64 y, .int .i64 v] w fun e w' => e = .returned (.int .i64 (rowPort y v)) ∧ w = w' := by
  by_cases h : v < y
  all_goals
    go_enter Tryd.func59, Tryd.ntmps59
    go_wp2_with fail
    go_ret
    exact ⟨ret_int64 (by simp [rowPort, h]), rfl⟩

set_option maxRecDepth 100000 in
set_option maxHeartbeats 1600000 in
theorem specStdPort (W H r a b : Int) (hr1 : 1 ≤ r) (hr4 : r ≤ 4) (ha : hasG W H a = true) (hb : hasG W H b = true) (w : World) :
    Calls Tryd.prog 42 #[.agg #[.int .i64 W, .int .i64 H], .int .i64 r, .int .i64 a, .int .i64 b] w (RetI (stdPort W r a b) none w) := by
  obtain ⟨hW, hH⟩ := okG_cases (hasG_ok ha).1
  obtain ⟨a0, a1⟩ := hasG_le ha
  obtain ⟨b0, b1⟩ := hasG_le hb
  have qa := row_wrap a0 a1 hW
  have qb := row_wrap b0 b1 hW
  obtain ⟨res, hres⟩ : ∃ p, stdPort W r a b = p := ⟨_, rfl⟩
  rw [hres]
  have hS := hres
  unfold stdPort at hS
  obtain ⟨p1, p2, p3, p4, _⟩ := place_of ha
  obtain ⟨s1, s2, s3, s4, _⟩ := place_of hb
  obtain ⟨x, hx⟩ : ∃ x, a % W = x := ⟨_, rfl⟩
  obtain ⟨y, hy⟩ : ∃ y, a / W = y := ⟨_, rfl⟩
  obtain ⟨u, hu⟩ : ∃ u, b % W = u := ⟨_, rfl⟩
  obtain ⟨v, hv⟩ : ∃ v, b / W = v := ⟨_, rfl⟩
  rw [hx, hy, hu, hv] at hS
  have hW1 : 1 ≤ W ∧ W ≤ 4 := by omega
  have hH2 : H ≤ 4 := by omega
  obtain ⟨hWa, hWb⟩ := hW1
  have da : a.tdiv W = y := by rw [Int.tdiv_eq_ediv_of_nonneg a0]; exact hy
  have db : b.tdiv W = v := by rw [Int.tdiv_eq_ediv_of_nonneg b0]; exact hv
  have ta : a.tmod W = x := by rw [Int.tmod_eq_emod_of_nonneg a0]; exact hx
  have tb : b.tmod W = u := by rw [Int.tmod_eq_emod_of_nonneg b0]; exact hu
  rw [hx] at p1 p2
  rw [hy] at p3 p4 qa
  rw [hu] at s1 s2
  rw [hv] at s3 s4 qb
  have hWn : W ≠ 0 := by omega
  clear hW hH hres hy hv
  by_cases hab : a = b
  · have hq : (a == b) = true := by simpa using hab
    rw [if_pos hab] at hS
    have HS := Lib.hid hS
    clear hab hS da db qa qb ta tb
    go_enter Tryd.func42, Tryd.ntmps42
    go_wp2_with fail
    go_ret
    exact ⟨ret_int64 HS.out, gb_alloc (gb_refl _ _) _⟩
  · have hq : (a == b) = false := by simpa using hab
    rw [if_neg hab] at hS
    clear hab
    have hr : r = 1 ∨ r = 2 ∨ r = 3 ∨ r = 4 := by omega
    clear hr1 hr4
    rcases hr with rfl | rfl | rfl | rfl
    · by_cases hc : x = u
      · have hf : firstG (mixRule 1 b) x y u v = false := by simp [firstG, mixRule, hc]
        have hb1 : (x != u) = false := by simpa using hc
        rw [hf] at hS
        simp only [if_true, if_false, Bool.false_eq_true] at hS
        have HS := Lib.hid hS
        clear hf hS hc
        go_enter Tryd.func42, Tryd.ntmps42
        go_wp2_with fail
        refine (specRow y v _).mono ?_
        rintro e w1 ⟨rfl, rfl⟩
        go_wp2_with fail
        go_ret
        exact ⟨ret_int64 HS.out, gb_alloc (gb_refl _ _) _⟩
      · have hf : firstG (mixRule 1 b) x y u v = true := by simp [firstG, mixRule, hc]
        have hb1 : (x != u) = true := by simpa using hc
        rw [hf] at hS
        simp only [if_true] at hS
        have HS := Lib.hid hS
        clear hf hS hc
        go_enter Tryd.func42, Tryd.ntmps42
        go_wp2_with fail
        refine (specColumn x u _).mono ?_
        rintro e w1 ⟨rfl, rfl⟩
        go_wp2_with fail
        go_ret
        exact ⟨ret_int64 HS.out, gb_alloc (gb_refl _ _) _⟩
    · by_cases hc : y = v
      · have hf : firstG (mixRule 2 b) x y u v = true := by simp [firstG, mixRule, hc]
        have hb1 : (y == v) = true := by simpa using hc
        rw [hf] at hS
        simp only [if_true] at hS
        have HS := Lib.hid hS
        clear hf hS hc
        go_enter Tryd.func42, Tryd.ntmps42
        go_wp2_with fail
        refine (specColumn x u _).mono ?_
        rintro e w1 ⟨rfl, rfl⟩
        go_wp2_with fail
        go_ret
        exact ⟨ret_int64 HS.out, gb_alloc (gb_refl _ _) _⟩
      · have hf : firstG (mixRule 2 b) x y u v = false := by simp [firstG, mixRule, hc]
        have hb1 : (y == v) = false := by simpa using hc
        rw [hf] at hS
        simp only [if_true, if_false, Bool.false_eq_true] at hS
        have HS := Lib.hid hS
        clear hf hS hc
        go_enter Tryd.func42, Tryd.ntmps42
        go_wp2_with fail
        refine (specRow y v _).mono ?_
        rintro e w1 ⟨rfl, rfl⟩
        go_wp2_with fail
        go_ret
        exact ⟨ret_int64 HS.out, gb_alloc (gb_refl _ _) _⟩
    · by_cases hc : u < x
      · have hf : firstG (mixRule 3 b) x y u v = true := by simp [firstG, mixRule, hc]
        rw [hf] at hS
        simp only [if_true] at hS
        have HS := Lib.hid hS
        clear hf hS
        go_enter Tryd.func42, Tryd.ntmps42
        go_wp2_with fail
        refine (specColumn x u _).mono ?_
        rintro e w1 ⟨rfl, rfl⟩
        go_wp2_with fail
        go_ret
        exact ⟨ret_int64 HS.out, gb_alloc (gb_refl _ _) _⟩
      · have hl := hc
        clear hc
        by_cases hc : y = v
        · have hf : firstG (mixRule 3 b) x y u v = true := by simp [firstG, mixRule, hl, hc]
          have hb1 : (y == v) = true := by simpa using hc
          rw [hf] at hS
          simp only [if_true] at hS
          have HS := Lib.hid hS
          clear hf hS hc
          go_enter Tryd.func42, Tryd.ntmps42
          go_wp2_with fail
          refine (specColumn x u _).mono ?_
          rintro e w1 ⟨rfl, rfl⟩
          go_wp2_with fail
          go_ret
          exact ⟨ret_int64 HS.out, gb_alloc (gb_refl _ _) _⟩
        · have hf : firstG (mixRule 3 b) x y u v = false := by simp [firstG, mixRule, hl, hc]
          have hb1 : (y == v) = false := by simpa using hc
          rw [hf] at hS
          simp only [if_true, if_false, Bool.false_eq_true] at hS
          have HS := Lib.hid hS
          clear hf hS hc
          go_enter Tryd.func42, Tryd.ntmps42
          go_wp2_with fail
          refine (specRow y v _).mono ?_
          rintro e w1 ⟨rfl, rfl⟩
          go_wp2_with fail
          go_ret
          exact ⟨ret_int64 HS.out, gb_alloc (gb_refl _ _) _⟩
    · rcases (show b % 2 = 0 ∨ b % 2 = 1 by omega) with hpar | hpar
      · by_cases hc : x = u
        · have hf : firstG (mixRule 4 b) x y u v = false := by simp [firstG, mixRule, hpar, hc]
          have hb1 : (x != u) = false := by simpa using hc
          rw [hf] at hS
          simp only [if_true, if_false, Bool.false_eq_true] at hS
          have HS := Lib.hid hS
          clear hf hS hc
          go_enter Tryd.func42, Tryd.ntmps42
          go_wp2_with fail
          refine (specRow y v _).mono ?_
          rintro e w1 ⟨rfl, rfl⟩
          go_wp2_with fail
          go_ret
          exact ⟨ret_int64 HS.out, gb_alloc (gb_refl _ _) _⟩
        · have hf : firstG (mixRule 4 b) x y u v = true := by simp [firstG, mixRule, hpar, hc]
          have hb1 : (x != u) = true := by simpa using hc
          rw [hf] at hS
          simp only [if_true] at hS
          have HS := Lib.hid hS
          clear hf hS hc
          go_enter Tryd.func42, Tryd.ntmps42
          go_wp2_with fail
          refine (specColumn x u _).mono ?_
          rintro e w1 ⟨rfl, rfl⟩
          go_wp2_with fail
          go_ret
          exact ⟨ret_int64 HS.out, gb_alloc (gb_refl _ _) _⟩
      · by_cases hc : y = v
        · have hf : firstG (mixRule 4 b) x y u v = true := by simp [firstG, mixRule, hpar, hc]
          have hb1 : (y == v) = true := by simpa using hc
          rw [hf] at hS
          simp only [if_true] at hS
          have HS := Lib.hid hS
          clear hf hS hc
          go_enter Tryd.func42, Tryd.ntmps42
          go_wp2_with fail
          refine (specColumn x u _).mono ?_
          rintro e w1 ⟨rfl, rfl⟩
          go_wp2_with fail
          go_ret
          exact ⟨ret_int64 HS.out, gb_alloc (gb_refl _ _) _⟩
        · have hf : firstG (mixRule 4 b) x y u v = false := by simp [firstG, mixRule, hpar, hc]
          have hb1 : (y == v) = false := by simpa using hc
          rw [hf] at hS
          simp only [if_true, if_false, Bool.false_eq_true] at hS
          have HS := Lib.hid hS
          clear hf hS hc
          go_enter Tryd.func42, Tryd.ntmps42
          go_wp2_with fail
          refine (specRow y v _).mono ?_
          rintro e w1 ⟨rfl, rfl⟩
          go_wp2_with fail
          go_ret
          exact ⟨ret_int64 HS.out, gb_alloc (gb_refl _ _) _⟩
end Go.Proofs.YtcmlnokfjbglaaaDoor
end

section
namespace Go.Proofs.YtcmlnokfjbglaaaDoor
open Go.ChangeShapes Go.WideShapes Go.ChangeAt Go.RowKit
set_option linter.unusedVariables false

def intsV (l : List Int) : List Value := l.map fun x => Value.int .i64 x
theorem intsV_append (a b : List Int) : intsV (a ++ b) = intsV a ++ intsV b := by simp [intsV]
theorem intsV_length (a : List Int) : (intsV a).length = a.length := by simp [intsV]
theorem info_int : (Tryd.prog.info? 3).map (fun i => (i.zero, i.size, i.bytes)) = some (some (.int .i64 0), 1, 8) := by kernel_rfl
theorem ints_cell {w : World} {base n g cap : Nat} {l : List Int} (h : w.ownsRow base 3 1 (.slice (some ⟨g, 0, none⟩) n cap) n (intsV l)) (k : Nat) (x : Int) (hk : l[k]? = some x) (hl : l.length = n) :
    w.cell? ⟨g, k, none⟩ = some (.int .i64 x) := by
  have hlt : k < n := by
    rcases Nat.lt_or_ge k n with h1 | h1
    · exact h1
    · rw [List.getElem?_eq_none (by omega)] at hk; cases hk
  rw [h.cellAt k (by omega)]
  simp [intsV, hk]
end Go.Proofs.YtcmlnokfjbglaaaDoor
end

section
namespace Go.Proofs.YtcmlnokfjbglaaaDoor
open Go.ChangeShapes Go.WideShapes Go.ChangeAt Go.RowKit
set_option linter.unusedVariables false

/-- The slice's n elements are the numbers of L, in a block below B. -/
def IntAt (w : World) (B : Nat) (A : Option Addr) (n : Nat) (L : List Int) : Prop :=
  L.length = n ∧ (0 < n → ∃ b off, A = some ⟨b, off, none⟩ ∧ b < B ∧ ∀ (k : Nat) (x : Int), L[k]? = some x → w.cell? ⟨b, off + k, none⟩ = some (.int .i64 x))
section
variable {w w' : World} {B B' n : Nat} {A : Option Addr} {L : List Int}
theorem IntAt.keep (h : IntAt w B A n L) (hk : ∀ p : Addr, p.block < B → w'.cell? p = w.cell? p) : IntAt w' B A n L := ⟨h.1, fun hn => by
  obtain ⟨b, off, hA, hb, hc⟩ := h.2 hn
  exact ⟨b, off, hA, hb, fun k x hx => (hk _ hb).trans (hc k x hx)⟩⟩
theorem IntAt.more (h : IntAt w B A n L) (hB : B ≤ B') : IntAt w B' A n L := ⟨h.1, fun hn => by
  obtain ⟨b, off, hA, hb, hc⟩ := h.2 hn
  exact ⟨b, off, hA, by omega, hc⟩⟩
theorem IntAt.grown {row : Option Nat} (h : IntAt w B A n L) (hB : B ≤ w.heap.size) (hg : w.grownBy w' row) (hr : ∀ k, row = some k → B ≤ k) : IntAt w' B A n L :=
  h.keep fun p hp => World.cell?_of_block (hg.block p.block (by omega) (fun e => by have := hr _ e.symm; omega))
theorem IntAt.none (h : IntAt w B A n L) (hB : B ≤ w.heap.size) (hg : w.grownBy w' none) : IntAt w' B A n L := h.grown hB hg (fun k e => by cases e)
theorem IntAt.below (h : IntAt w B A n L) (hb : Below B w w') : IntAt w' B A n L := h.keep fun p hp => World.cell?_of_block (hb.block p.block hp)
theorem IntAt.nil (w : World) (B : Nat) (A : Option Addr) : IntAt w B A 0 [] := ⟨rfl, fun h => by omega⟩
/-- One element. -/
theorem IntAt.at (h : IntAt w B A n L) (k : Nat) (hk : k < n) : ∃ b off, A = some ⟨b, off, Option.none⟩ ∧ b < B ∧ w.cell? ⟨b, off + k, Option.none⟩ = some (.int .i64 (L.getD k 0)) := by
  obtain ⟨b, off, hA, hb, hc⟩ := h.2 (by omega)
  have hl := h.1
  exact ⟨b, off, hA, hb, hc k _ (by rw [List.getD_eq_getElem?_getD, List.getElem?_eq_getElem (by omega)]; rfl)⟩
end
theorem alloc_size (w : World) (o : Obj) : (w.alloc o).heap.size = w.heap.size + 1 := by simp
theorem own_less {w : World} {b1 b2 : Nat} {e : TypeId} {size n : Nat} {v : Value} {xs : List Value} (h : w.ownsRow b2 e size v n xs) (hb : b1 ≤ b2) : w.ownsRow b1 e size v n xs :=
  ⟨h.1, h.2.imp id fun ⟨g, cap, cur, e1, e2, rest⟩ => ⟨g, cap, cur, e1, Nat.le_trans hb e2, rest⟩⟩

/-- A row of the call's own, read. -/
theorem intAt_own {w : World} {base n B cap : Nat} {A : Option Addr} {L : List Int} (h : w.ownsRow base 3 1 (.slice A n cap) n (intsV L)) (hl : L.length = n) (hB : w.heap.size ≤ B) : IntAt w B A n L :=
  ⟨hl, fun hn => by
    obtain ⟨A', cap', hv, ha⟩ := own_form h
    obtain ⟨g, hg⟩ := ha hn
    obtain ⟨rfl, rfl⟩ : A = A' ∧ cap = cap' := by injection hv with h1 h2 h3; exact ⟨h1, h3⟩
    subst hg
    exact ⟨g, 0, rfl, by have := (h.lt g rfl).2; omega, fun k x hx => by rw [Nat.zero_add]; exact ints_cell h k x hx hl⟩⟩
theorem own_ints_length {w : World} {base n : Nat} {v : Value} {L : List Int} (h : w.ownsRow base 3 1 v n (intsV L)) : L.length = n := by
  have := h.1
  rw [intsV_length] at this
  omega
theorem intsV_set (l : List Int) (j : Nat) (x : Int) : (intsV l).set j (.int .i64 x) = intsV (l.set j x) := by simp [intsV, List.map_set]
theorem madeInts (n : Nat) : (madeCells (Value.int .i64 0).cells n).toList = intsV (List.replicate n 0) := by
  show (madeCells #[Value.int .i64 0] n).toList = _
  rw [toList_madeCells_one]
  simp [intsV]

end Go.Proofs.YtcmlnokfjbglaaaDoor
end

section
namespace Go.Proofs.YtcmlnokfjbglaaaDoor
open Go.ChangeShapes Go.WideShapes Go.ChangeAt Go.RowKit
set_option linter.unusedVariables false

/-- A new list of numbers. -/
def NewI (L : List Int) (w : World) (e : Ending) (w' : World) : Prop :=
  ∃ v, e = .returned v ∧ w'.ownsRow w.heap.size 3 1 v L.length (intsV L) ∧ Below w.heap.size w w'
theorem below_box {w wr : World} {o : Obj} (h : Below (w.heap.size + 1) (w.alloc o) wr) : Below w.heap.size w wr := by
  have h0 : Below w.heap.size w (w.alloc o) := (Below.refl _ _).alloc (Nat.le_refl _) o
  exact ⟨h.os.trans h0.os, h.tape.trans h0.tape, h.output.trans h0.output, Nat.le_trans h0.size h.size, fun i hi => (h.block i (by omega)).trans (h0.block i hi)⟩
theorem below_gb {B : Nat} {a b c : World} (h : Below B a b) (hB : B ≤ a.heap.size) (k : b.grownBy c none) : Below B a c :=
  h.grown k (Nat.le_trans hB h.size) (fun j e => by cases e)
end Go.Proofs.YtcmlnokfjbglaaaDoor
end

section
namespace Go.Proofs.YtcmlnokfjbglaaaDoor
open Go.ChangeShapes Go.WideShapes Go.ChangeAt Go.RowKit
set_option linter.unusedVariables false

theorem box2 {w w1 : World} {T U : TypeId} {cs ds : Array Value} (h : ((w.alloc (.cells cs T)).alloc (.cells ds U)).grownBy w1 none) :
    Blk w1 w.heap.size T cs ∧ Blk w1 (w.heap.size + 1) U ds ∧ w.grownBy w1 none := by
  refine ⟨((Blk.new w T cs).alloc _).grown h (by simp), ?_, gb_trans (gb_alloc (gb_alloc (gb_refl _ _) _) _) h⟩
  have := (Blk.new (w.alloc (.cells cs T)) U ds).grown h (by simp)
  rwa [alloc_size] at this
theorem sq_bounds {k : Int} (h0 : 0 ≤ k) (h1 : k ≤ 16) : 0 ≤ k * k ∧ k * k ≤ 256 := by
  have e : k = (k.toNat : Int) := (Int.toNat_of_nonneg h0).symm
  have h2 : k.toNat ≤ 16 := by omega
  have h3 : k.toNat * k.toNat ≤ 16 * 16 := Nat.mul_le_mul h2 h2
  rw [e, ← Int.natCast_mul]
  omega
end Go.Proofs.YtcmlnokfjbglaaaDoor
end

section
namespace Go.Proofs.YtcmlnokfjbglaaaDoor
open Go.ChangeShapes Go.WideShapes Go.ChangeAt Go.RowKit
set_option linter.unusedVariables false

theorem gb_undraw1 {a b : World} {row : Option Nat} (h : a.drew.grownBy b row) : a.grownBy b row := ⟨h.os, h.tape, h.output, h.size, h.block⟩
/-- A new table with these entries. -/
def NewTabS (P : List Int) (w : World) (e : Ending) (w' : World) : Prop :=
  ∃ v, e = .returned (.agg #[v]) ∧ w'.ownsRow w.heap.size 3 1 v P.length (intsV P) ∧ Below w.heap.size w w'
def MakeAt (W H r : Int) (w : World) (k : Nat) (v : Value) (wr : World) : Prop :=
  Blk wr w.heap.size 25 #[.int .i64 W, .int .i64 H] ∧ Blk wr (w.heap.size + 1) 30 #[.slice none 0 0] ∧ Blk wr (w.heap.size + 1 + 1) 30 #[v] ∧
  wr.ownsRow (w.heap.size + 3) 3 1 v k (intsV (stdTo W H r k)) ∧ Below w.heap.size w wr
theorem MakeAt.app {W H r : Int} {w wr w5 : World} {k : Nat} {v v' : Value} {o : Obj} (h : MakeAt W H r w k v wr) (hg : (wr.alloc o).grownBy w5 v.ownBlock)
    (ho : w5.ownsRow (w.heap.size + 3) 3 1 v' (k + 1) (intsV (stdTo W H r k) ++ [.int .i64 (stdPort W r ((k : Int) / countG W H) ((k : Int) % countG W H))])) :
    MakeAt W H r w (k + 1) v' (w5.setCell ⟨w.heap.size + 1 + 1, 0, none⟩ v') := by
  obtain ⟨h0, h1, h2, hown, hb⟩ := h
  have hne : ∀ g, g < w.heap.size + 3 → some g ≠ v.ownBlock := fun g hg e => by have := (hown.lt g e.symm).1; omega
  refine ⟨((h0.alloc o).grown hg (hne _ (by omega))).far (by show w.heap.size ≠ w.heap.size + 1 + 1; omega) _, ((h1.alloc o).grown hg (hne _ (by omega))).far (by show w.heap.size + 1 ≠ w.heap.size + 1 + 1; omega) _, ?_, ?_, ?_⟩
  · have := ((h2.alloc o).grown hg (hne _ (by omega))).set_ 0 v'
    simpa using this
  · rw [stdTo_succ, intsV_append]
    exact ownsRow_setCell_below ho (by show w.heap.size + 1 + 1 < w.heap.size + 3; omega) _
  · have h3 := (hb.alloc hb.size o).grown hg (by have := hb.size; simp; omega) (fun j hj => by have := (hown.lt j hj).1; omega)
    exact gb_below_none (gb_setCell (gb_of_below h3 none) (.inr (by show w.heap.size ≤ w.heap.size + 1 + 1; omega)) _) (Nat.le_refl _)
theorem MakeAt.none {W H r : Int} {w wr w5 : World} {k : Nat} {v : Value} (h : MakeAt W H r w k v wr) (hg : wr.grownBy w5 none) : MakeAt W H r w k v w5 :=
  ⟨h.1.grown hg (by simp), h.2.1.grown hg (by simp), h.2.2.1.grown hg (by simp), own_none h.2.2.2.1 hg, below_gb h.2.2.2.2 (Nat.le_refl _) hg⟩

theorem specNodeCountV2 (W H k : Int) (h : countG W H = k) (w : World) :
    Calls Tryd.prog 41 #[.agg #[.int .i64 W, .int .i64 H]] w (RetI k none w) := h ▸ specNodeCount W H w

set_option maxRecDepth 100000 in
theorem specMake (W H r : Int) (hok : okG W H = true) (hr1 : 1 ≤ r) (hr4 : r ≤ 4) (w : World) :
    Calls Tryd.prog 25 #[.agg #[.int .i64 W, .int .i64 H], .int .i64 r] w (NewTabS (stdTab W H r) w) := by
  obtain ⟨i0, hi, hz0, hz1, hz2⟩ := info_parts info_int
  obtain ⟨k, hk⟩ : ∃ k, countG W H = k := ⟨_, rfl⟩
  obtain ⟨hk0, hk1⟩ := countG_le W H
  have hsq := sq_int W H
  have hsl := sq_le W H
  rw [hk] at hk0 hk1 hsq
  obtain ⟨m0, m1⟩ := sq_bounds hk0 hk1
  have HSQ := Lib.hid hsq
  have hw : wrap64 (k * k) = k * k := IntWalk.wrap64_in _ (by omega)
  have HN := Lib.hid (fun w => specNodeCountV2 W H k hk w)
  have HK := Lib.hid hk
  have hk1' : 1 ≤ k := by
    obtain ⟨hW, hH⟩ := okG_cases hok
    have hkc : k = W * H := by rw [← hk]; simp [countG, hok]
    rw [hkc]
    rcases hW with rfl | rfl | rfl | rfl <;> rcases hH with rfl | rfl | rfl | rfl <;> decide
  have HR := Lib.hid (And.intro hr1 hr4)
  have hB : MakeAt W H r w 0 (.slice none 0 0) (((w.alloc (.cells #[.int .i64 W, .int .i64 H] 25)).alloc (.cells #[.slice none 0 0] 30)).alloc (.cells #[.slice none 0 0] 30)) := by
    refine ⟨(((Blk.new w _ _).alloc _).alloc _), ?_, ?_, World.ownsRow_nil _ _ _ _, ?_⟩
    · have := Blk.new (w.alloc (.cells #[.int .i64 W, .int .i64 H] 25)) 30 #[.slice none 0 0]
      rw [alloc_size] at this
      exact this.alloc _
    · have := Blk.new ((w.alloc (.cells #[.int .i64 W, .int .i64 H] 25)).alloc (.cells #[.slice none 0 0] 30)) 30 #[.slice none 0 0]
      rw [alloc_size, alloc_size] at this
      exact this
    · exact gb_below_none (gb_alloc (gb_alloc (gb_alloc (gb_refl w none) _) _) _) (Nat.le_refl _)
  have HB := Lib.hid hB
  clear hk hsq hB hr1 hr4 hok
  go_enter Tryd.func25, Tryd.ntmps25
  go_wp2_with fail
  refine (HN.out _).mono ?_
  rintro e w1 ⟨rfl, hg⟩
  have HX := Lib.hid (HB.out.none hg)
  clear hg
  go_wp2_with fail
  go_loopw [7] (fun i wr => ∃ (x : Nat) (v : Value), i = .int .i64 (x : Int) ∧ (x : Int) ≤ k * k ∧ MakeAt W H r w x v wr) (fun i _ => 257 - (intOf i).toNat)
  case atStart => exact ⟨0, _, rfl, by omega, HX.out⟩
  case round =>
    obtain ⟨x, v, rfl, hx, hmk⟩ := hrel
    have HMK := Lib.hid hmk
    have a0 : wr.cell? ⟨w.heap.size, 0, none⟩ = some (.int .i64 W) := hmk.1.cell 0
    have a1 : wr.cell? ⟨w.heap.size, 1, none⟩ = some (.int .i64 H) := hmk.1.cell 1
    have b1 : wr.cell? ⟨w.heap.size + 1, 0, none⟩ = some (.slice none 0 0) := hmk.2.1.cell 0
    have b2 : wr.cell? ⟨w.heap.size + 1 + 1, 0, none⟩ = some v := hmk.2.2.1.cell 0
    have f1 := hmk.2.1.frozen 0
    have f2 := hmk.2.2.1.frozen 0
    by_cases hlt : (x : Int) < k * k
    · obtain ⟨hax, hay⟩ := pair_at (W := W) (H := H) (i := x) (by have := HSQ.out; omega)
      obtain ⟨u, hu⟩ : ∃ u, (x : Int) / countG W H = u := ⟨_, rfl⟩
      obtain ⟨y, hy⟩ : ∃ y, (x : Int) % countG W H = y := ⟨_, rfl⟩
      rw [hu] at hax
      rw [hy] at hay
      have hu15 := hasG_le hax
      have hy15 := hasG_le hay
      have HU := Lib.hid hu
      have HY := Lib.hid hy
      rw [HK.out] at hu hy
      have q1 : (x : Int).tdiv k = u := by rw [Int.tdiv_eq_ediv_of_nonneg (by omega)]; exact hu
      have q2 : (x : Int).tmod k = y := by rw [Int.tmod_eq_emod_of_nonneg (by omega)]; exact hy
      have q3 : IntKind.i64.wrap u = u := IntWalk.i64_in _ (by omega)
      have q4 : IntKind.i64.wrap y = y := IntWalk.i64_in _ (by omega)
      have q5 : (k == 0) = false := by simp; omega
      have q6 : k ≠ 0 := by omega
      obtain ⟨p, hp⟩ : ∃ p, stdPort W r u y = p := ⟨_, rfl⟩
      have HPT := Lib.hid (fun w => hp ▸ specStdPort W H r u y HR.out.1 HR.out.2 hax hay w)
      have HP := Lib.hid hp
      have hx257 : x + 1 ≤ maxLen := by unfold maxLen; omega
      have hx8 : (x + 1) * 8 ≤ 140737488355328 := by omega
      have c4 : ∀ z ∈ [Value.int .i64 p], z.oneCell' = true := by simp [Value.oneCell']
      clear hax hay hu hy hmk hp
      go_wp2_with fail
      go_region_law
        (first
          | (go_simp; (with_reducible refine (HPT.out _).mono ?_); rintro e w4 ⟨rfl, hg4⟩; have M4 := Lib.hid (HMK.out.none (gb_undraw1 hg4)); have d0 : w4.cell? ⟨w.heap.size, 0, none⟩ = some (.int .i64 W) := M4.out.1.cell 0; have d1 : w4.cell? ⟨w.heap.size, 1, none⟩ = some (.int .i64 H) := M4.out.1.cell 1; have d2 : w4.cell? ⟨w.heap.size + 1 + 1, 0, none⟩ = some v := M4.out.2.2.1.cell 0; have d3 : (w4.alloc (.cells #[.int .i64 p] 3)).cell? ⟨w.heap.size + 1 + 1, 0, none⟩ = some v := (M4.out.2.2.1.alloc _).cell 0; have s4 : w.heap.size + 3 ≤ (w4.alloc (.cells #[.int .i64 p] 3)).heap.size := by have := M4.out.2.2.1.lt; rw [alloc_size]; omega
             have o4 := M4.out.2.2.2.1.alloc (.cells #[.int .i64 p] 3); clear hg4; go_simp)
          | (refine step_append_lies _ (by rfl) _ _ _ (by rfl) (w.heap.size + 3) 3 i0 _ 1 8 Tryd.underlying26 hi hz0 hz1 hz2 rfl (by omega) v x (intsV (stdTo W H r x)) (by rfl) o4
              ⟨w4.heap.size, 0, none⟩ 1 1 [.int .i64 p] (by rfl) (by rfl) (World.news_of_block (cs := #[.int .i64 p]) (t := 3) (fr := (0, 0)) (heap_alloc_new w4 _)) c4
              (by omega) hx257 hx8 s4 (w4.heap.size + 1) (by simp) ?_; intro g cap w5 hown5 hgrow hat hltg; have M5 := Lib.hid (MakeAt.app M4.out hgrow (by rw [HU.out, HY.out, HP.out]; exact hown5)); have hne : ∀ j, j < w.heap.size + 3 → some j ≠ v.ownBlock := fun j hj e => by have := (M4.out.2.2.2.1.lt j e.symm).1; omega
             have k0 := (M4.out.1.alloc (.cells #[.int .i64 p] 3)).grown hgrow (hne _ (by omega)); have k2 := (M4.out.2.2.1.alloc (.cells #[.int .i64 p] 3)).grown hgrow (hne _ (by omega)); have e0 : w5.cell? ⟨w.heap.size, 0, none⟩ = some (.int .i64 W) := k0.cell 0; have e1 : w5.cell? ⟨w.heap.size, 1, none⟩ = some (.int .i64 H) := k0.cell 1; have e2 : w5.cell? ⟨w.heap.size + 1 + 1, 0, none⟩ = some v := k2.cell 0; have f5 := k2.frozen 0; clear k0 k2 hne hown5 hgrow hat hltg)
          | fail)
      all_goals
        go_wp2_with fail
        go_roundw
        case rel => exact ⟨x + 1, _, by go_num, by omega, M5.out⟩
        case measure => simp [intOf]; omega
    · have hxk : x = sqG W H := by have := HSQ.out; omega
      have HE := Lib.hid hxk
      obtain ⟨Av, cv, rfl, _⟩ := own_form hmk.2.2.2.1
      clear hxk
      have h1 := (hmk.2.1.set_ 0 (.slice Av x cv)).cell 0
      simp at h1
      have O := Lib.hid hmk.2.2.2.1
      have BE := Lib.hid hmk.2.2.2.2
      clear hmk
      go_wp2_with fail
      refine bodyPost_ret (v := .agg #[.slice Av x cv]) (by simp [results, Tryd.results25, go_sem, h1]) rfl ⟨_, rfl, ?_, ?_⟩
      · have := ownsRow_setCell_below O.out (a := ⟨w.heap.size + 1, 0, none⟩) (by show w.heap.size + 1 < w.heap.size + 3; omega) (.slice Av x cv)
        rw [stdTab, stdTo_len, ← HE.out]
        exact own_less this (by omega)
      · exact gb_below_none (gb_setCell (gb_of_below BE.out none) (.inr (by show w.heap.size ≤ w.heap.size + 1; omega)) _) (Nat.le_refl _)
end Go.Proofs.YtcmlnokfjbglaaaDoor
end

section
namespace Go.Proofs.YtcmlnokfjbglaaaDoor
open Go.ChangeShapes Go.WideShapes Go.ChangeAt Go.RowKit
set_option linter.unusedVariables false

theorem cur_far {w : World} {g : Nat} {p : Addr} (h : Cur w g) (hp : g < p.block) (x : Value) : Cur (w.setCell p x) g :=
  h.grown (gb_setCell (gb_refl w (some p.block)) (.inl rfl) x) (fun k e => by cases e; exact hp)
theorem gb_setS {a w : World} {row : Option Nat} {b i j k : Nat} (h : a.grownBy w row) (hb : a.heap.size ≤ b) (x y z : Value) : a.grownBy (((w.setCell ⟨b, i, none⟩ x).setCell ⟨b, j, none⟩ y).setCell ⟨b, k, none⟩ z) row :=
  gb_setCell (gb_setCell (gb_setCell h (.inr hb) x) (.inr hb) y) (.inr hb) z
theorem gb_undraw2 {a b : World} {row : Option Nat} (h : a.drew.grownBy b row) : a.grownBy b row := ⟨h.os, h.tape, h.output, h.size, h.block⟩
end Go.Proofs.YtcmlnokfjbglaaaDoor
end

section
namespace Go.Proofs.YtcmlnokfjbglaaaDoor
open Go.ChangeShapes Go.WideShapes Go.ChangeAt Go.RowKit
set_option linter.unusedVariables false

/-- A new list of numbers, and whether there is one. -/
def NewR (L : List Int) (b : Bool) (w : World) (e : Ending) (w' : World) : Prop :=
  ∃ v, e = .returned (.tuple #[v, .bool b]) ∧ w'.ownsRow w.heap.size 3 1 v L.length (intsV L) ∧ Below w.heap.size w w'
theorem ret_pair {v : Value} {a b : Bool} (h : a = b) : Ending.returned (.tuple #[v, .bool a]) = Ending.returned (.tuple #[v, .bool b]) := by rw [h]
theorem own_nil {L : List Int} (h : L = []) (w : World) (base : Nat) : w.ownsRow base 3 1 (.slice none 0 0) L.length (intsV L) := by subst h; exact World.ownsRow_nil _ _ _ _
/-- An empty list of the function's own. -/
theorem own_empty {L : List Int} (h : L = []) {w wr : World} (hb : Below w.heap.size w wr) : (wr.alloc (.cells #[] 3)).ownsRow w.heap.size 3 1 (.slice (some ⟨wr.heap.size, 0, none⟩) 0 0) L.length (intsV L) ∧ Below w.heap.size w (wr.alloc (.cells #[] 3)) := by
  subst h
  exact ⟨World.ownsRow_made (base := w.heap.size) (e := 3) (size := 1) wr #[] 0 hb.size (by decide) rfl, hb.alloc hb.size _⟩
theorem own_cap {w : World} {base : Nat} {e : TypeId} {size n cap : Nat} {A : Option Addr} {xs : List Value} (h : w.ownsRow base e size (.slice A n cap) n xs) : n ≤ cap ∧ cap ≤ maxLen := by
  rcases h.2 with ⟨h1, h2⟩ | ⟨g, cap', cur, h1, _, _, h2, h3, _⟩
  · simp only [Value.slice.injEq] at h1
    obtain ⟨_, _, rfl⟩ := h1
    exact ⟨by omega, Nat.zero_le _⟩
  · simp only [Value.slice.injEq] at h1
    obtain ⟨_, _, rfl⟩ := h1
    exact ⟨h2, h3⟩
/-- The first k numbers of a slice. -/
theorem IntAt.take {w : World} {B n : Nat} {A : Option Addr} {L : List Int} (h : IntAt w B A n L) {k : Nat} (hk : k ≤ n) : IntAt w B A k (L.take k) := ⟨by have := h.1; simp; omega, fun h0 => by
  obtain ⟨b, off, hA, hb, hc⟩ := h.2 (by omega)
  refine ⟨b, off, hA, hb, fun j x hx => hc j x ?_⟩
  rcases Nat.lt_or_ge j k with h1 | h1
  · rwa [List.getElem?_take_of_lt h1] at hx
  · rw [List.getElem?_eq_none (by simp; omega)] at hx; cases hx⟩
end Go.Proofs.YtcmlnokfjbglaaaDoor
end

section
namespace Go.Proofs.YtcmlnokfjbglaaaDoor
open Go.ChangeShapes Go.WideShapes Go.ChangeAt Go.RowKit
set_option linter.unusedVariables false

/-- The first one's block is not the second one's. -/
def Apart (v v' : Value) : Prop := ∀ g, v.ownBlock = some g → v'.ownBlock ≠ some g
theorem apart_none (v : Value) : Apart v (.slice none 0 0) := fun g _ e => by cases e
theorem none_apart (v : Value) : Apart (.slice none 0 0) v := fun g e => by cases e
theorem row_kept {w w' : World} {base : Nat} {v : Value} {n : Nat} {xs : List Value} {row : Option Nat} (h : w.ownsRow base 3 1 v n xs) (hg : w.grownBy w' row) (hne : ∀ g, row = some g → v.ownBlock ≠ some g) : w'.ownsRow base 3 1 v n xs :=
  h.kept hg (by
    cases hv : v.ownBlock with
    | none => exact .inl rfl
    | some k => exact .inr (fun e => hne k e.symm hv))
/-- The numbers of steps, the front, the next front, the successors. -/
structure Dp (w : World) (vd : Value) (X : List Int) (vf : Value) (F : List Int) (vn : Value) (N : List Int) (vs : Value) (S : List Int) (wr : World) : Prop where
  rd : wr.ownsRow w.heap.size 3 1 vd 128 (intsV X)
  rf : wr.ownsRow w.heap.size 3 1 vf F.length (intsV F)
  rn : wr.ownsRow w.heap.size 3 1 vn N.length (intsV N)
  rs : wr.ownsRow w.heap.size 3 1 vs S.length (intsV S)
  lb : Below w.heap.size w wr
  df : Apart vd vf
  dn : Apart vd vn
  ds : Apart vd vs
  nf : Apart vn vf
  ns : Apart vn vs
section
variable {w wr w' : World} {vd vf vn vs v : Value} {X F N S L : List Int}
theorem Dp.gb (h : Dp w vd X vf F vn N vs S wr) (hg : wr.grownBy w' none) : Dp w vd X vf F vn N vs S w' :=
  ⟨own_none h.rd hg, own_none h.rf hg, own_none h.rn hg, own_none h.rs hg, below_gb h.lb (Nat.le_refl _) hg, h.df, h.dn, h.ds, h.nf, h.ns⟩
theorem Dp.al (h : Dp w vd X vf F vn N vs S wr) (o : Obj) : Dp w vd X vf F vn N vs S (wr.alloc o) := h.gb (gb_alloc (gb_refl wr none) o)
/-- The successors of another channel. -/
theorem Dp.succ (h : Dp w vd X vf F vn N vs S wr) (ho : w'.ownsRow wr.heap.size 3 1 v L.length (intsV L)) (hb : Below wr.heap.size wr w') : Dp w vd X vf F vn N v L w' := by
  have k := h.gb (gb_of_below hb none)
  exact ⟨k.rd, k.rf, k.rn, own_less ho h.lb.size, k.lb, h.df, h.dn, fun g hg e => by have h1 := (h.rd.lt g hg).2; have h2 := (ho.lt g e).1; omega, h.nf, fun g hg e => by have h1 := (h.rn.lt g hg).2; have h2 := (ho.lt g e).1; omega⟩
theorem Dp.drop (h : Dp w vd X vf F vn N vs S wr) : Dp w vd X vf F vn N (.slice none 0 0) [] wr :=
  ⟨h.rd, h.rf, h.rn, World.ownsRow_nil _ _ _ _, h.lb, h.df, h.dn, apart_none _, h.nf, apart_none _⟩
/-- A new list behind the front. -/
theorem Dp.begin (h : Dp w vd X vf F vn N vs S wr) : Dp w vd X vf F (.slice (some ⟨wr.heap.size, 0, none⟩) 0 0) [] (.slice none 0 0) [] (wr.alloc (.cells #[] 3)) := by
  have k := h.al (.cells #[] 3)
  refine ⟨k.rd, k.rf, World.ownsRow_made (base := w.heap.size) (e := 3) (size := 1) wr #[] 0 h.lb.size (by decide) rfl, World.ownsRow_nil _ _ _ _, k.lb, h.df, fun g hg e => ?_, apart_none _, fun g hg e => ?_, apart_none _⟩
  · have h1 := (h.rd.lt g hg).2
    have h2 : wr.heap.size = g := Option.some.inj e
    omega
  · have h1 := (h.rf.lt g e).2
    have h2 : wr.heap.size = g := Option.some.inj hg
    omega
/-- The new list is the front. -/
theorem Dp.shift (h : Dp w vd X vf F vn N vs S wr) : Dp w vd X vn N (.slice none 0 0) [] (.slice none 0 0) [] wr :=
  ⟨h.rd, h.rn, World.ownsRow_nil _ _ _ _, World.ownsRow_nil _ _ _ _, h.lb, h.dn, apart_none _, apart_none _, none_apart _, none_apart _⟩
theorem Dp.store {g cap : Nat} (h : Dp w (.slice (some ⟨g, 0, none⟩) 128 cap) X vf F vn N vs S wr) (t : Nat) (x : Int) : Dp w (.slice (some ⟨g, 0, none⟩) 128 cap) (X.set t x) vf F vn N vs S (wr.setCell ⟨g, t, none⟩ (.int .i64 x)) := by
  obtain ⟨h1, h2⟩ := h.rd.stored t (.int .i64 x)
  rw [intsV_set] at h1
  refine ⟨h1, row_kept h.rf h2 ?_, row_kept h.rn h2 ?_, row_kept h.rs h2 ?_, h.lb.grown h2 h.lb.size (fun j e => by cases e; exact (h.rd.lt g rfl).1), h.df, h.dn, h.ds, h.nf, h.ns⟩
  · exact fun j e => by cases e; exact h.df g rfl
  · exact fun j e => by cases e; exact h.dn g rfl
  · exact fun j e => by cases e; exact h.ds g rfl
theorem Dp.app {g cap : Nat} {o : Obj} {x : Int} (h : Dp w vd X vf F vn N vs S wr) (ho : w'.ownsRow w.heap.size 3 1 (.slice (some ⟨g, 0, none⟩) (N.length + 1) cap) (N.length + 1) (intsV N ++ [.int .i64 x]))
    (hg : (wr.alloc o).grownBy w' vn.ownBlock) (hat : vn.ownBlock = some g ∨ g = (wr.alloc o).heap.size) : Dp w vd X vf F (.slice (some ⟨g, 0, none⟩) (N.length + 1) cap) (N ++ [x]) vs S w' := by
  have k := h.al o
  have hH : wr.heap.size < (wr.alloc o).heap.size := by rw [alloc_size]; omega
  refine ⟨row_kept k.rd hg (fun j e e2 => h.dn j e2 e), row_kept k.rf hg (fun j e => h.nf j e), by rw [List.length_append, intsV_append]; exact ho, row_kept k.rs hg (fun j e => h.ns j e), k.lb.grown hg k.lb.size (fun j e => (h.rn.lt j e).1), h.df, ?_, h.ds, ?_, ?_⟩
  · intro j e e2
    have e3 : g = j := Option.some.inj e2
    subst e3
    rcases hat with h1 | h1
    · exact h.dn g e h1
    · have := (h.rd.lt g e).2
      omega
  · intro j e e2
    have e3 : g = j := Option.some.inj e
    subst e3
    rcases hat with h1 | h1
    · exact h.nf g h1 e2
    · have := (h.rf.lt g e2).2
      omega
  · intro j e e2
    have e3 : g = j := Option.some.inj e
    subst e3
    rcases hat with h1 | h1
    · exact h.ns g h1 e2
    · have := (h.rs.lt g e2).2
      omega
end
end Go.Proofs.YtcmlnokfjbglaaaDoor
end

section
namespace Go.Proofs.YtcmlnokfjbglaaaDoor
open Go.ChangeShapes Go.WideShapes Go.ChangeAt Go.RowKit
set_option linter.unusedVariables false

/-- Two rows of numbers, apart from each other. -/
structure VRow (w : World) (base : Nat) (vr vc : Value) (a b : Nat) (R C : List Int) : Prop where
  r : w.ownsRow base 3 1 vr a (intsV R)
  c : w.ownsRow base 3 1 vc b (intsV C)
  ap : Apart vr vc
section
variable {w w' w1 : World} {base base2 a b a2 b2 : Nat} {vr vc ur uc : Value} {R C R2 C2 : List Int} {row row2 : Option Nat}
theorem VRow.gb (h : VRow w base vr vc a b R C) (hg : w.grownBy w' none) : VRow w' base vr vc a b R C := ⟨own_none h.r hg, own_none h.c hg, h.ap⟩
theorem VRow.bl (h : VRow w base vr vc a b R C) (hb : Below w.heap.size w w') : VRow w' base vr vc a b R C := h.gb (gb_of_below hb none)
theorem VRow.alloc (h : VRow w base vr vc a b R C) (o : Obj) : VRow (w.alloc o) base vr vc a b R C := h.gb (gb_alloc (gb_refl w none) o)
theorem VRow.drew (h : VRow w base vr vc a b R C) : VRow w.drew base vr vc a b R C := h.gb (gb_drew (gb_refl w none))
theorem VRow.less (h : VRow w base vr vc a b R C) (hb : base2 ≤ base) : VRow w base2 vr vc a b R C := ⟨own_less h.r hb, own_less h.c hb, h.ap⟩
theorem VRow.lt (h : VRow w base vr vc a b R C) (k : Nat) (hk : vr.ownBlock = some k ∨ vc.ownBlock = some k) : base ≤ k ∧ k < w.heap.size := by
  rcases hk with hk | hk
  · exact h.r.lt k hk
  · exact h.c.lt k hk
theorem VRow.kept (h : VRow w base vr vc a b R C) (hg : w.grownBy w' row) (hne : ∀ k, (vr.ownBlock = some k ∨ vc.ownBlock = some k) → row ≠ some k) : VRow w' base vr vc a b R C :=
  ⟨row_kept h.r hg (fun j e e2 => hne j (.inl e2) e), row_kept h.c hg (fun j e e2 => hne j (.inr e2) e), h.ap⟩
theorem VRow.kept2 (h : VRow w base vr vc a b R C) (hg : w.grownBy w1 ur.ownBlock) (hg2 : w1.grownBy w' uc.ownBlock) (hne : ∀ k j, (vr.ownBlock = some k ∨ vc.ownBlock = some k) → (ur.ownBlock = some j ∨ uc.ownBlock = some j) → k ≠ j) : VRow w' base vr vc a b R C :=
  (h.kept hg (fun k hk e => hne k k hk (.inl e) rfl)).kept hg2 (fun k hk e => hne k k hk (.inr e) rfl)
end
end Go.Proofs.YtcmlnokfjbglaaaDoor
end

section
namespace Go.Proofs.YtcmlnokfjbglaaaDoor
open Go.ChangeShapes Go.WideShapes Go.ChangeAt Go.RowKit
set_option linter.unusedVariables false

/-- Blocks in the interval and new ones alone are written. -/
structure Chg (lo hi : Nat) (w w' : World) : Prop where
  os : w'.os = w.os
  tape : w'.tape = w.tape
  output : w'.output = w.output
  size : w.heap.size ≤ w'.heap.size
  block : ∀ k, k < w.heap.size → ¬ (lo ≤ k ∧ k < hi) → w'.heap[k]? = w.heap[k]?
section
variable {lo hi lo' hi' : Nat} {a b c : World}
theorem Chg.refl (lo hi : Nat) (a : World) : Chg lo hi a a := ⟨rfl, rfl, rfl, Nat.le_refl _, fun _ _ _ => rfl⟩
theorem Chg.trans (h : Chg lo hi a b) (k : Chg lo hi b c) : Chg lo hi a c :=
  ⟨k.os.trans h.os, k.tape.trans h.tape, k.output.trans h.output, Nat.le_trans h.size k.size, fun i hi hn => (k.block i (Nat.lt_of_lt_of_le hi h.size) hn).trans (h.block i hi hn)⟩
theorem chg_gb (lo hi : Nat) (h : a.grownBy b none) : Chg lo hi a b := ⟨h.os, h.tape, h.output, h.size, fun i hi _ => h.block i hi (by simp)⟩
theorem Chg.gb (h : Chg lo hi a b) (k : b.grownBy c none) : Chg lo hi a c := h.trans (chg_gb lo hi k)
theorem Chg.bl (h : Chg lo hi a b) (k : Below b.heap.size b c) : Chg lo hi a c := h.gb (gb_of_below k none)
theorem Chg.dr (h : Chg lo hi a b) : Chg lo hi a b.drew := ⟨h.os, h.tape, h.output, h.size, h.block⟩
theorem Chg.al (h : Chg lo hi a b) (o : Obj) : Chg lo hi a (b.alloc o) := h.gb (gb_alloc (gb_refl _ _) o)
theorem Chg.st (h : Chg lo hi a b) {p : Addr} (hp : a.heap.size ≤ p.block ∨ lo ≤ p.block ∧ p.block < hi) (u : Value) : Chg lo hi a (b.setCell p u) :=
  ⟨h.os, h.tape, h.output, by simpa [World.setCell] using h.size, fun i hi hn => (Below.heap_setCell b p u i (by
    rintro rfl
    rcases hp with hp | hp
    · omega
    · exact hn hp)).trans (h.block i hi hn)⟩
theorem Chg.sb (h : Chg lo hi a b) {g : Nat} (hg : a.heap.size ≤ g) (i : Nat) (u : Value) : Chg lo hi a (b.setCell ⟨g, i, Option.none⟩ u) := h.st (.inl hg) u
theorem Chg.row (h : Chg lo hi a b) {row : Option Nat} (k : b.grownBy c row) (hr : ∀ j, row = some j → lo ≤ j ∧ j < hi) : Chg lo hi a c :=
  ⟨k.os.trans h.os, k.tape.trans h.tape, k.output.trans h.output, Nat.le_trans h.size k.size, fun i hi hn => (k.block i (Nat.lt_of_lt_of_le hi h.size) (fun e => hn (hr i e.symm))).trans (h.block i hi hn)⟩
theorem Chg.mono (h : Chg lo hi a b) (h1 : lo' ≤ lo) (h2 : hi ≤ hi') : Chg lo' hi' a b := ⟨h.os, h.tape, h.output, h.size, fun i hi hn => h.block i hi (by omega)⟩
theorem Chg.below (h : Chg lo hi a b) {B : Nat} (h1 : B ≤ lo ∨ hi ≤ lo) (h2 : B ≤ a.heap.size) : Below B a b := ⟨h.os, h.tape, h.output, h.size, fun i hi => h.block i (by omega) (by omega)⟩
theorem Chg.still (h : Chg lo lo a b) : a.grownBy b none := ⟨h.os, h.tape, h.output, h.size, fun i hi _ => h.block i hi (by omega)⟩
theorem Blk.chg {g : Nat} {t : TypeId} {cs : Array Value} (h : Blk a g t cs) (hc : Chg lo hi a b) (hg : g < lo ∨ hi ≤ g ∨ hi ≤ lo) : Blk b g t cs := (hc.block g h.lt (by omega)).trans h
theorem IntAt.chg {w : World} {n : Nat} {A : Option Addr} {L : List Int} (h : IntAt w w.heap.size A n L) (hb : Below w.heap.size w a) (hc : Chg lo hi a b) (hg : w.heap.size ≤ lo ∨ hi ≤ lo) : IntAt b b.heap.size A n L :=
  ((h.below hb).below (hc.below hg hb.size)).more (Nat.le_trans hb.size hc.size)
end
/-- P holds, and hangs on the blocks from B to E alone. -/
def Fix (B E : Nat) (P : World → Prop) (w : World) : Prop := E ≤ w.heap.size ∧ ∀ w', w.heap.size ≤ w'.heap.size → (∀ k, B ≤ k → k < E → w'.heap[k]? = w.heap[k]?) → P w'
section
variable {B E lo hi : Nat} {P Q : World → Prop} {a b w : World}
theorem Fix.here (h : Fix B E P w) : P w := h.2 w (Nat.le_refl _) (fun _ _ _ => rfl)
theorem Fix.chg (h : Fix B E P a) (hc : Chg lo hi a b) (hd : E ≤ lo ∨ hi ≤ B ∨ hi ≤ lo) : Fix B E P b :=
  ⟨Nat.le_trans h.1 hc.size, fun w' hs hk => h.2 w' (Nat.le_trans hc.size hs) (fun k h1 h2 => (hk k h1 h2).trans (hc.block k (Nat.lt_of_lt_of_le h2 h.1) (by omega)))⟩
theorem Fix.gb (h : Fix B E P a) (hc : a.grownBy b Option.none) : Fix B E P b := h.chg (chg_gb 0 0 hc) (.inr (.inr (Nat.le_refl _)))
theorem Fix.wide (h : Fix B E P w) {B' E' : Nat} (h1 : B' ≤ B) (h2 : E ≤ E') (h3 : E' ≤ w.heap.size) : Fix B' E' P w := ⟨h3, fun w' hs hk => h.2 w' hs (fun k k1 k2 => hk k (by omega) (by omega))⟩
theorem Fix.and (h : Fix B E P w) (k : Fix B E Q w) : Fix B E (fun w => P w ∧ Q w) w := ⟨h.1, fun w' hs hk => ⟨h.2 w' hs hk, k.2 w' hs hk⟩⟩
theorem fix_row {e : TypeId} {size n : Nat} {v : Value} {xs : List Value} (h : w.ownsRow B e size v n xs) : Fix B w.heap.size (fun w => w.ownsRow B e size v n xs) w := by
  refine ⟨Nat.le_refl _, fun w' hs hk => ?_⟩
  have hl := h.lt
  refine ⟨h.1, ?_⟩
  rcases h.2 with h1 | ⟨g, cap, cur, h1, h2, h3, h4⟩
  · exact .inl h1
  · refine .inr ⟨g, cap, cur, h1, h2, ?_, h4⟩
    subst h1
    rw [hk g h2 (hl g rfl).2]
    exact h3
theorem fix_vrow {vr vc : Value} {m n : Nat} {R C : List Int} (h : VRow w B vr vc m n R C) : Fix B w.heap.size (fun w => VRow w B vr vc m n R C) w :=
  ⟨Nat.le_refl _, fun w' hs hk => ⟨(fix_row h.r).2 w' hs hk, (fix_row h.c).2 w' hs hk, h.ap⟩⟩
theorem Fix.al (h : Fix B E P w) (o : Obj) : Fix B E P (w.alloc o) := h.gb (gb_alloc (gb_refl _ _) o)
theorem Fix.nx (h : Fix B E P a) (q : Chg 0 0 a b) : Fix B E P b := h.chg q (.inr (.inr (Nat.le_refl _)))
theorem Chg.far {g g' : Nat} {c : World} (h : Chg lo hi a b) (k : Chg g g' b c) (hg : a.heap.size ≤ g) : Chg lo hi a c :=
  ⟨k.os.trans h.os, k.tape.trans h.tape, k.output.trans h.output, Nat.le_trans h.size k.size, fun i hi hn => (k.block i (Nat.lt_of_lt_of_le hi h.size) (by omega)).trans (h.block i hi hn)⟩
theorem Blk.nx {g : Nat} {t : TypeId} {cs : Array Value} (h : Blk a g t cs) (q : Chg 0 0 a b) : Blk b g t cs := h.chg q (.inr (.inr (Nat.le_refl _)))
theorem st_in (w : World) (g i : Nat) (u : Value) : Chg g (g + 1) w (w.setCell ⟨g, i, none⟩ u) := (Chg.refl g (g + 1) w).st (.inr ⟨Nat.le_refl _, Nat.lt_succ_self _⟩) u
theorem Chg.si {g i : Nat} (h : Chg g (g + 1) a b) (u : Value) : Chg g (g + 1) a (b.setCell ⟨g, i, Option.none⟩ u) := h.st (.inr ⟨Nat.le_refl _, Nat.lt_succ_self _⟩) u
theorem Chg.sx {g : Nat} (h : Chg g (g + 1) a b) (i : Nat) (u : Value) : Chg g (g + 1) a (b.setCell ⟨g, i, Option.none⟩ u) := h.si u
theorem gb_drD0 (h : a.drew.grownBy b Option.none) : a.grownBy b Option.none := ⟨h.os, h.tape, h.output, h.size, h.block⟩
theorem chg_one {g : Nat} (h : a.grownBy b (some g)) : Chg g (g + 1) a b := (Chg.refl g (g + 1) a).row h (fun j e => by cases e; omega)
theorem Chg.cursor {g : Nat} (h : Chg g (g + 1) a b) : a.grownBy b (some g) := ⟨h.os, h.tape, h.output, h.size, fun i hi hn => h.block i hi (fun hk => hn (by rw [show i = g by omega]))⟩
theorem chg_none_to (h : Chg 0 0 a b) : Chg lo hi a b := chg_gb lo hi h.still
theorem drew_heap (w : World) : w.drew.heap = w.heap := rfl
theorem chg_drew (w : World) : Chg 0 0 w w.drew := (Chg.refl 0 0 w).dr
end
end Go.Proofs.YtcmlnokfjbglaaaDoor
end

section
namespace Go.Proofs.YtcmlnokfjbglaaaDoor
open Go.ChangeShapes Go.WideShapes Go.ChangeAt Go.RowKit
set_option linter.unusedVariables false

/-- A mesh without broken channels and two standard tables. -/
def DrawnClsC (g : Nat) (w : World) (e : Ending) (w' : World) : Prop := ∃ (W H r s : Int) (v u : Value), e = .returned (.tuple #[.agg #[.int .i64 W, .int .i64 H, .slice none 0 0], .agg #[v, u]]) ∧ okG W H = true ∧ (1 ≤ r ∧ r ≤ 4 ∧ 1 ≤ s ∧ s ≤ 4) ∧
  VRow w' w.heap.size v u (stdTab W H r).length (stdTab W H s).length (stdTab W H r) (stdTab W H s) ∧ Cur w' g ∧ w.grownBy w' (some g)
theorem Chg.sw {lo hi : Nat} {a b : World} (h : Chg lo hi a b) {k : Nat} (h1 : lo ≤ k) (h2 : k < hi) (i : Nat) (u : Value) : Chg lo hi a (b.setCell ⟨k, i, Option.none⟩ u) := h.st (.inr ⟨h1, h2⟩) u
theorem Chg.cu {g : Nat} {a b c : World} (h : Chg g (g + 1) a b) (k : b.grownBy c (some g)) : Chg g (g + 1) a c := h.row k (fun j e => by cases e; omega)
set_option maxRecDepth 100000 in
set_option maxHeartbeats 8000000 in
theorem l12Case (g : Nat) (w : World) (hcur : Cur w g) :
    Calls Tryd.prog 12 #[.pointer (some ⟨g, 0, none⟩)] w (DrawnClsC g w) := by
  have hlt := hcur.lt
  have hg0 : w.grownBy ((w.alloc (.cells #[.int .i64 0, .int .i64 0, .slice none 0 0] 28)).alloc (.cells #[.slice none 0 0, .slice none 0 0] 32)) none := gb_alloc (gb_alloc (gb_refl w none) _) _
  have hc0 : Cur ((w.alloc (.cells #[.int .i64 0, .int .i64 0, .slice none 0 0] 28)).alloc (.cells #[.slice none 0 0, .slice none 0 0] 32)) g := hcur.grown hg0 (fun k e => by cases e)
  have hbM : Blk ((w.alloc (.cells #[.int .i64 0, .int .i64 0, .slice none 0 0] 28)).alloc (.cells #[.slice none 0 0, .slice none 0 0] 32)) w.heap.size 28 #[.int .i64 0, .int .i64 0, .slice none 0 0] := (Blk.new w _ _).alloc _
  have hbT : Blk ((w.alloc (.cells #[.int .i64 0, .int .i64 0, .slice none 0 0] 28)).alloc (.cells #[.slice none 0 0, .slice none 0 0] 32)) (w.heap.size + 1) 32 #[.slice none 0 0, .slice none 0 0] := by
    have := Blk.new (w.alloc (.cells #[.int .i64 0, .int .i64 0, .slice none 0 0] 28)) 32 #[.slice none 0 0, .slice none 0 0]
    rwa [alloc_size] at this
  have HBM := Lib.hid hbM
  have HBT := Lib.hid hbT
  have HG0 := Lib.hid (gb_of_none hg0 (some g))
  clear hcur hbM hbT hg0
  go_enter Tryd.func12, Tryd.ntmps12
  go_wp2_with fail
  refine (l02Grid g _ hc0).mono ?_
  rintro e w1 ⟨W, H, rfl, hok, hc1, hg1⟩
  have HOK := Lib.hid hok
  have HG1 := Lib.hid (gb_alloc (gb_trans HG0.out hg1) (.cells #[.int .i64 W, .int .i64 H, .slice none 0 0] 28))
  have HM1 := Lib.hid ((HBM.out.grown hg1 (fun e => by cases e; omega)).alloc (.cells #[.int .i64 W, .int .i64 H, .slice none 0 0] 28))
  have HT1 := Lib.hid ((HBT.out.grown hg1 (fun e => by cases e; omega)).alloc (.cells #[.int .i64 W, .int .i64 H, .slice none 0 0] 28))
  have HQ1 := Lib.hid (Blk.new w1 28 #[.int .i64 W, .int .i64 H, .slice none 0 0])
  have HC1 : Hid (Cur (w1.alloc (.cells #[.int .i64 W, .int .i64 H, .slice none 0 0] 28)).drew g) := (hc1.grown (gb_alloc (gb_refl _ none) (.cells #[.int .i64 W, .int .i64 H, .slice none 0 0] 28)) (fun k e => by cases e) : Cur (w1.alloc (.cells #[.int .i64 W, .int .i64 H, .slice none 0 0] 28)) g)
  have hs1 : w.heap.size + 2 ≤ w1.heap.size := by have := hg1.size; rw [alloc_size, alloc_size] at this; omega
  have HA := Lib.hid (show g ≤ w.heap.size by omega)
  have HB := Lib.hid (show w.heap.size < w1.heap.size by omega)
  have HC := Lib.hid (show g ≤ w.heap.size + 1 by omega)
  have HD := Lib.hid (show w.heap.size + 1 < w1.heap.size by omega)
  have HE := Lib.hid (show g + 1 ≤ w.heap.size by omega)
  have KP := Lib.hid (fun (w' : World) (hq : Chg g w1.heap.size (w1.alloc (.cells #[.int .i64 W, .int .i64 H, .slice none 0 0] 28)) w') => (show w'.cell? ⟨w1.heap.size, 0, none⟩ = some (.int .i64 W) ∧ w'.cell? ⟨w1.heap.size, 1, none⟩ = some (.int .i64 H) ∧ w'.cell? ⟨w1.heap.size, 2, none⟩ = some (.slice none 0 0) from ⟨(HQ1.out.chg hq (.inr (.inl (Nat.le_refl _)))).cell 0, (HQ1.out.chg hq (.inr (.inl (Nat.le_refl _)))).cell 1, (HQ1.out.chg hq (.inr (.inl (Nat.le_refl _)))).cell 2⟩))
  clear hok hc0 hc1 hg1
  go_wp2_with fail
  go_region_held3 (fun w' => w'.cell? ⟨w1.heap.size, 0, none⟩ = some (.int .i64 W) ∧ w'.cell? ⟨w1.heap.size, 1, none⟩ = some (.int .i64 H) ∧ w'.cell? ⟨w1.heap.size, 2, none⟩ = some (.slice none 0 0))
    (first | with_reducible exact KP.out _ (Chg.refl _ _ (w1.alloc (.cells #[.int .i64 W, .int .i64 H, .slice none 0 0] 28))) | with_reducible exact KP.out _ ((Chg.refl _ _ (w1.alloc (.cells #[.int .i64 W, .int .i64 H, .slice none 0 0] 28))).dr) | with_reducible exact KP.out _ S2.out | with_reducible exact KP.out _ S3.out | with_reducible exact KP.out _ S4.out | with_reducible exact KP.out _ S5.out | with_reducible exact ⟨s0, s1, s2⟩ | with_reducible exact ⟨u0, u1, u2⟩ | fail)
    (first
      | (go_at_call 26; (with_reducible refine (l01Below 4 g _ HC3.out).mono ?_); rintro e w4 ⟨y, rfl, y0, y1, y2, hc4, hg4⟩; have y3 := y1 (by omega); have q2 : IntKind.i64.wrap (1 + y) = 1 + y := IntWalk.i64_in _ (by omega); have HC4 := Lib.hid hc4; have R4 := Lib.hid (R3.out.cu hg4); have S4 := Lib.hid (R4.out.mono (Nat.le_refl _) (show g + 1 ≤ w1.heap.size by omega)); have HY := Lib.hid (And.intro y0 y3); have F34 := Lib.hid (F3.out.chg (chg_one hg4) (.inr (.inl (by have h1 := R2.out.size; rw [alloc_size] at h1; omega)))); have N4 := Lib.hid hg4.size; clear hc4 hg4 y1 y2)
      | (go_at_call 26; (with_reducible refine (l01Below 4 g _ HC1.out).mono ?_); rintro e w2 ⟨x, rfl, x0, x1, x2, hc2, hg2⟩; have x3 := x1 (by omega); have q1 : IntKind.i64.wrap (1 + x) = 1 + x := IntWalk.i64_in _ (by omega); have HC2 := Lib.hid hc2; have R2 := Lib.hid ((Chg.refl g (g + 1) (w1.alloc (.cells #[.int .i64 W, .int .i64 H, .slice none 0 0] 28))).dr.cu hg2); have S2 := Lib.hid (R2.out.mono (Nat.le_refl _) (show g + 1 ≤ w1.heap.size by omega)); have HX := Lib.hid (And.intro x0 x3); clear hc2 hg2 x1 x2)
      | (go_at_call 25; (with_reducible refine (specMake W H (1 + x) HOK.out (by omega) (by omega) _).mono ?_); rintro e w3 ⟨v3, rfl, o3, b3⟩; obtain ⟨P, hP⟩ : ∃ P, stdTab W H (1 + x) = P := ⟨_, rfl⟩; rw [hP] at o3; have HPP := Lib.hid hP; clear hP; obtain ⟨A3, c3, rfl, _⟩ := own_form o3; have hg3 := gb_of_below b3 none; have HC3 := Lib.hid (HC2.out.grown hg3 (fun k e => by cases e)); have R3 := Lib.hid (R2.out.gb hg3); have S3 := Lib.hid (R3.out.mono (Nat.le_refl _) (show g + 1 ≤ w1.heap.size by omega)); have F3 := Lib.hid (fix_row o3); have L3 := Lib.hid o3.lt; have N3 := Lib.hid b3.size; clear o3 b3 hg3)
      | (go_at_call 25; (with_reducible refine (specMake W H (1 + y) HOK.out (by omega) (by omega) _).mono ?_); rintro e w5 ⟨v5, rfl, o5, b5⟩; obtain ⟨Q, hQ⟩ : ∃ Q, stdTab W H (1 + y) = Q := ⟨_, rfl⟩; rw [hQ] at o5; have HQQ := Lib.hid hQ; clear hQ; obtain ⟨A5, c5, rfl, _⟩ := own_form o5; have hg5 := gb_of_below b5 none; have HC5 := Lib.hid (HC4.out.grown hg5 (fun k e => by cases e)); have R5 := Lib.hid (R4.out.gb hg5); have S5 := Lib.hid (R5.out.mono (Nat.le_refl _) (show g + 1 ≤ w1.heap.size by omega)); have F35 := Lib.hid (F34.out.gb hg5); have F5 := Lib.hid (fix_row o5); have L5 := Lib.hid o5.lt
         have HQ5 := Lib.hid (HQ1.out.chg R5.out (.inr (.inl (by omega)))); have hne1 : w1.heap.size ≠ w.heap.size := (by omega); have hne2 : w1.heap.size ≠ w.heap.size + 1 := (by omega)
         have Q7 := Lib.hid (((HQ5.out.far (p := ⟨w.heap.size, 0, none⟩) hne1 (.int .i64 W)).far (p := ⟨w.heap.size, 1, none⟩) hne1 (.int .i64 H)).far (p := ⟨w.heap.size, 2, none⟩) hne1 (.slice none 0 0))
         have Q8 := Lib.hid ((Q7.out.far (p := ⟨w.heap.size + 1, 0, none⟩) hne2 (.slice A3 P.length c3)).far (p := ⟨w.heap.size + 1, 1, none⟩) hne2 (.slice A5 Q.length c5))
         have s0 : (((w5.setCell ⟨w.heap.size, 0, none⟩ (.int .i64 W)).setCell ⟨w.heap.size, 1, none⟩ (.int .i64 H)).setCell ⟨w.heap.size, 2, none⟩ (.slice none 0 0)).cell? ⟨w1.heap.size, 0, none⟩ = some (.int .i64 W) := Q7.out.cell 0
         have u0 : (((((w5.setCell ⟨w.heap.size, 0, none⟩ (.int .i64 W)).setCell ⟨w.heap.size, 1, none⟩ (.int .i64 H)).setCell ⟨w.heap.size, 2, none⟩ (.slice none 0 0)).setCell ⟨w.heap.size + 1, 0, none⟩ (.slice A3 P.length c3)).setCell ⟨w.heap.size + 1, 1, none⟩ (.slice A5 Q.length c5)).cell? ⟨w1.heap.size, 0, none⟩ = some (.int .i64 W) := Q8.out.cell 0
         have s1 : (((w5.setCell ⟨w.heap.size, 0, none⟩ (.int .i64 W)).setCell ⟨w.heap.size, 1, none⟩ (.int .i64 H)).setCell ⟨w.heap.size, 2, none⟩ (.slice none 0 0)).cell? ⟨w1.heap.size, 1, none⟩ = some (.int .i64 H) := Q7.out.cell 1
         have u1 : (((((w5.setCell ⟨w.heap.size, 0, none⟩ (.int .i64 W)).setCell ⟨w.heap.size, 1, none⟩ (.int .i64 H)).setCell ⟨w.heap.size, 2, none⟩ (.slice none 0 0)).setCell ⟨w.heap.size + 1, 0, none⟩ (.slice A3 P.length c3)).setCell ⟨w.heap.size + 1, 1, none⟩ (.slice A5 Q.length c5)).cell? ⟨w1.heap.size, 1, none⟩ = some (.int .i64 H) := Q8.out.cell 1
         have s2 : (((w5.setCell ⟨w.heap.size, 0, none⟩ (.int .i64 W)).setCell ⟨w.heap.size, 1, none⟩ (.int .i64 H)).setCell ⟨w.heap.size, 2, none⟩ (.slice none 0 0)).cell? ⟨w1.heap.size, 2, none⟩ = some (.slice none 0 0) := Q7.out.cell 2
         have u2 : (((((w5.setCell ⟨w.heap.size, 0, none⟩ (.int .i64 W)).setCell ⟨w.heap.size, 1, none⟩ (.int .i64 H)).setCell ⟨w.heap.size, 2, none⟩ (.slice none 0 0)).setCell ⟨w.heap.size + 1, 0, none⟩ (.slice A3 P.length c3)).setCell ⟨w.heap.size + 1, 1, none⟩ (.slice A5 Q.length c5)).cell? ⟨w1.heap.size, 2, none⟩ = some (.slice none 0 0) := Q8.out.cell 2
         have HM5 := Lib.hid (HM1.out.chg R5.out (.inr (.inl HE.out))); have HT5 := Lib.hid (HT1.out.chg R5.out (.inr (.inl (by omega))))
         have m0 : w5.cell? ⟨w.heap.size, 0, none⟩ = some (.int .i64 0) := HM5.out.cell 0; have m1 : w5.cell? ⟨w.heap.size, 1, none⟩ = some (.int .i64 0) := HM5.out.cell 1; have m2 : w5.cell? ⟨w.heap.size, 2, none⟩ = some (.slice none 0 0) := HM5.out.cell 2
         have t0 : w5.cell? ⟨w.heap.size + 1, 0, none⟩ = some (.slice none 0 0) := HT5.out.cell 0; have t1 : w5.cell? ⟨w.heap.size + 1, 1, none⟩ = some (.slice none 0 0) := HT5.out.cell 1
         have f0 := HM5.out.frozen 0; have f1 := HM5.out.frozen 1; have f2 := HM5.out.frozen 2; have f3 := HT5.out.frozen 0; have f4 := HT5.out.frozen 1; clear hg5 o5 b5)
      | fail)
  all_goals
    have kk := ((((HM5.out.set_ 0 (.int .i64 W)).set_ 1 (.int .i64 H)).set_ 2 (.slice none 0 0)).far (p := ⟨w.heap.size + 1, 0, none⟩) (by show w.heap.size ≠ w.heap.size + 1; omega) (.slice A3 P.length c3)).far (p := ⟨w.heap.size + 1, 1, none⟩) (by show w.heap.size ≠ w.heap.size + 1; omega) (.slice A5 Q.length c5)
    have tt := ((((HT5.out.far (p := ⟨w.heap.size, 0, none⟩) (by show w.heap.size + 1 ≠ w.heap.size; omega) (.int .i64 W)).far (p := ⟨w.heap.size, 1, none⟩) (by show w.heap.size + 1 ≠ w.heap.size; omega) (.int .i64 H)).far (p := ⟨w.heap.size, 2, none⟩) (by show w.heap.size + 1 ≠ w.heap.size; omega) (.slice none 0 0)).set_ 0 (.slice A3 P.length c3)).set_ 1 (.slice A5 Q.length c5)
    have r0 := kk.cell 0
    have r1 := kk.cell 1
    have r2 := kk.cell 2
    have r3 := tt.cell 0
    have r4 := tt.cell 1
    simp at r0 r1 r2 r3 r4
    have hz := R5.out.size
    have hz4 := N4.out
    have hz3 := N3.out
    rw [alloc_size] at hz
    have hz2 := R2.out.size
    rw [alloc_size] at hz2
    have X1 := (((Chg.refl w.heap.size (w.heap.size + 2) w5).sw (Nat.le_refl _) (by omega) 0 (.int .i64 W)).sw (Nat.le_refl _) (by omega) 1 (.int .i64 H)).sw (Nat.le_refl _) (by omega) 2 (.slice none 0 0)
    have X2 := Lib.hid ((X1.sw (k := w.heap.size + 1) (by omega) (by omega) 0 (.slice A3 P.length c3)).sw (k := w.heap.size + 1) (by omega) (by omega) 1 (.slice A5 Q.length c5))
    have L3' := L3.out
    have hb3 : w.heap.size + 2 ≤ w2.heap.size := by omega
    have F8 := Lib.hid (F35.out.chg X2.out (.inr (.inl hb3)))
    have F9 := Lib.hid (F5.out.chg X2.out (.inr (.inl (by have h3 := F3.out.1; omega))))
    have C8 := Lib.hid (cur_far (cur_far (cur_far (cur_far (cur_far HC5.out (p := ⟨w.heap.size, 0, none⟩) (by show g < w.heap.size; omega) (.int .i64 W)) (p := ⟨w.heap.size, 1, none⟩) (by show g < w.heap.size; omega) (.int .i64 H)) (p := ⟨w.heap.size, 2, none⟩) (by show g < w.heap.size; omega) (.slice none 0 0)) (p := ⟨w.heap.size + 1, 0, none⟩) (by show g < w.heap.size + 1; omega) (.slice A3 P.length c3)) (p := ⟨w.heap.size + 1, 1, none⟩) (by show g < w.heap.size + 1; omega) (.slice A5 Q.length c5))
    have G5 := gb_trans HG1.out (R5.out.cursor)
    have G8 := Lib.hid (gb_setCell (gb_setCell (gb_setS G5 (i := 0) (j := 1) (k := 2) (b := w.heap.size) (Nat.le_refl _) (.int .i64 W) (.int .i64 H) (.slice none 0 0)) (p := ⟨w.heap.size + 1, 0, none⟩) (.inr (by show w.heap.size ≤ w.heap.size + 1; omega)) (.slice A3 P.length c3)) (p := ⟨w.heap.size + 1, 1, none⟩) (.inr (by show w.heap.size ≤ w.heap.size + 1; omega)) (.slice A5 Q.length c5))
    have hnum := And.intro HX.out HY.out
    have hl5 := L5.out
    have hw43 := F34.out.1
    clear kk tt X1 G5
    go_wp2_with fail
    refine bodyPost_ret (v := .tuple #[.agg #[.int .i64 W, .int .i64 H, .slice none 0 0], .agg #[.slice A3 P.length c3, .slice A5 Q.length c5]]) (by simp [results, Tryd.results12, go_sem, r0, r1, r2, r3, r4]) rfl ⟨W, H, 1 + x, 1 + y, _, _, rfl, HOK.out, by omega, ?_, C8.out, G8.out⟩
    rw [HPP.out, HQQ.out]
    refine ⟨own_less F8.out.here (by omega), own_less F9.out.here (by omega), fun j e e2 => ?_⟩
    have h1 := (L3' j e).2
    have h2 := (hl5 j e2).1
    omega
end Go.Proofs.YtcmlnokfjbglaaaDoor
end

section
namespace Go.Proofs.YtcmlnokfjbglaaaDoor
open Go.ChangeShapes Go.WideShapes Go.ChangeAt Go.RowKit
set_option linter.unusedVariables false

/-- A mesh without broken channels and two standard tables are returned; only new blocks are written. -/
def DrawnCls (w : World) (e : Ending) (w' : World) : Prop := ∃ (W H r s : Int) (v u : Value), e = .returned (.tuple #[.agg #[.int .i64 W, .int .i64 H, .slice none 0 0], .agg #[v, u]]) ∧ okG W H = true ∧ (1 ≤ r ∧ r ≤ 4 ∧ 1 ≤ s ∧ s ≤ 4) ∧
  VRow w' w.heap.size v u (stdTab W H r).length (stdTab W H s).length (stdTab W H r) (stdTab W H s) ∧ Below w.heap.size w w'

set_option maxHeartbeats 1600000 in
theorem drawClasses (A : Option Addr) (n cap : Nat) (w : World) (hr : ByteRow w w.heap.size A n) (hn : n ≤ 1048576) :
    Calls Tryd.prog 5 #[.slice A n cap] w (DrawnCls w) := by
  have hg0 : w.grownBy ((w.alloc (.cells #[.int .i64 0, .int .i64 0, .slice none 0 0] 28)).alloc (.cells #[.slice none 0 0, .slice none 0 0] 32)) none := gb_alloc (gb_alloc (gb_refl w none) _) _
  have hs0 : ((w.alloc (.cells #[.int .i64 0, .int .i64 0, .slice none 0 0] 28)).alloc (.cells #[.slice none 0 0, .slice none 0 0] 32)).heap.size = w.heap.size + 2 := by rw [alloc_size, alloc_size]
  have hr0 : ByteRow ((w.alloc (.cells #[.int .i64 0, .int .i64 0, .slice none 0 0] 28)).alloc (.cells #[.slice none 0 0, .slice none 0 0] 32)) ((w.alloc (.cells #[.int .i64 0, .int .i64 0, .slice none 0 0] 28)).alloc (.cells #[.slice none 0 0, .slice none 0 0] 32)).heap.size A n :=
    (hr.keep fun p hp => World.cell?_of_block (hg0.block p.block hp (by simp))).more (by rw [hs0]; omega)
  have hbM : Blk ((w.alloc (.cells #[.int .i64 0, .int .i64 0, .slice none 0 0] 28)).alloc (.cells #[.slice none 0 0, .slice none 0 0] 32)) w.heap.size 28 #[.int .i64 0, .int .i64 0, .slice none 0 0] := (Blk.new w _ _).alloc _
  have hbT : Blk ((w.alloc (.cells #[.int .i64 0, .int .i64 0, .slice none 0 0] 28)).alloc (.cells #[.slice none 0 0, .slice none 0 0] 32)) (w.heap.size + 1) 32 #[.slice none 0 0, .slice none 0 0] := by
    have := Blk.new (w.alloc (.cells #[.int .i64 0, .int .i64 0, .slice none 0 0] 28)) 32 #[.slice none 0 0, .slice none 0 0]
    rwa [alloc_size] at this
  have HR := Lib.hid hr0
  have HBM := Lib.hid hbM
  have HBT := Lib.hid hbT
  have HG0 := Lib.hid hg0
  have HS0 := Lib.hid hs0
  clear hr hr0 hbM hbT hg0 hs0
  go_enter Tryd.func5, Tryd.ntmps5
  go_wp2_with fail
  refine (l01New _ _ _ _ HR.out hn).mono ?_
  rintro e w1 ⟨g, rfl, hg, hc1, hbel⟩
  rw [HS0.out] at hg hbel
  have hle := hbel.size
  rw [HS0.out] at hle
  have HM1 := Lib.hid (HBM.out.below hbel (by omega))
  have HT1 := Lib.hid (HBT.out.below hbel (by omega))
  have HA1 := Lib.hid ((gb_below_none HG0.out (Nat.le_refl _)).trans (hbel.mono (by omega)))
  have HG := Lib.hid hg
  have HLE := Lib.hid hle
  have hcl := hc1.lt
  clear hbel hg hle
  go_wp2_with fail
  refine (l12Case g _ hc1).mono ?_
  rintro e w2 ⟨W, H, r, s, v, u, rfl, hok, hrs, ho2, hc2, hg2⟩
  have HM2 := Lib.hid (HM1.out.grown hg2 (fun e => by cases e; have := HG.out; omega))
  have HT2 := Lib.hid (HT1.out.grown hg2 (fun e => by cases e; have := HG.out; omega))
  have HA2 := Lib.hid (HA1.out.trans (gb_below hg2 HA1.out.size (by have := HG.out; omega)))
  obtain ⟨A2, c2, rfl, _⟩ := own_form ho2.r
  obtain ⟨A3, c3, rfl, _⟩ := own_form ho2.c
  have F2 := Lib.hid (fix_vrow ho2)
  have HF := Lib.hid (And.intro hok hrs)
  have m0 : w2.cell? ⟨w.heap.size, 0, none⟩ = some (.int .i64 0) := HM2.out.cell 0
  have m1 : w2.cell? ⟨w.heap.size, 1, none⟩ = some (.int .i64 0) := HM2.out.cell 1
  have m2 : w2.cell? ⟨w.heap.size, 2, none⟩ = some (.slice none 0 0) := HM2.out.cell 2
  have t0 : w2.cell? ⟨w.heap.size + 1, 0, none⟩ = some (.slice none 0 0) := HT2.out.cell 0
  have t1 : w2.cell? ⟨w.heap.size + 1, 1, none⟩ = some (.slice none 0 0) := HT2.out.cell 1
  have f0 := HM2.out.frozen 0
  have f1 := HM2.out.frozen 1
  have f2 := HM2.out.frozen 2
  have f3 := HT2.out.frozen 0
  have f4 := HT2.out.frozen 1
  clear hok hrs ho2 hc1 hc2 hg2
  obtain ⟨P, hP⟩ : ∃ P, stdTab W H r = P := ⟨_, rfl⟩
  obtain ⟨Q, hQ⟩ : ∃ Q, stdTab W H s = Q := ⟨_, rfl⟩
  rw [hP, hQ] at F2
  rw [hP, hQ]
  have HPP := Lib.hid hP
  have HQQ := Lib.hid hQ
  clear hP hQ
  go_wp2_with fail
  have kk := ((((HM2.out.set_ 0 (.int .i64 W)).set_ 1 (.int .i64 H)).set_ 2 (.slice none 0 0)).far (p := ⟨w.heap.size + 1, 0, none⟩) (by show w.heap.size ≠ w.heap.size + 1; omega) (.slice A2 P.length c2)).far (p := ⟨w.heap.size + 1, 1, none⟩) (by show w.heap.size ≠ w.heap.size + 1; omega) (.slice A3 Q.length c3)
  have tt := ((((HT2.out.far (p := ⟨w.heap.size, 0, none⟩) (by show w.heap.size + 1 ≠ w.heap.size; omega) (.int .i64 W)).far (p := ⟨w.heap.size, 1, none⟩) (by show w.heap.size + 1 ≠ w.heap.size; omega) (.int .i64 H)).far (p := ⟨w.heap.size, 2, none⟩) (by show w.heap.size + 1 ≠ w.heap.size; omega) (.slice none 0 0)).set_ 0 (.slice A2 P.length c2)).set_ 1 (.slice A3 Q.length c3)
  have r0 := kk.cell 0
  have r1 := kk.cell 1
  have r2 := kk.cell 2
  have r3 := tt.cell 0
  have r4 := tt.cell 1
  simp at r0 r1 r2 r3 r4
  have hle := HLE.out
  have X2 := Lib.hid ((((((Chg.refl w.heap.size (w.heap.size + 2) w2).sw (Nat.le_refl _) (by omega) 0 (.int .i64 W)).sw (Nat.le_refl _) (by omega) 1 (.int .i64 H)).sw (Nat.le_refl _) (by omega) 2 (.slice none 0 0)).sw (k := w.heap.size + 1) (by omega) (by omega) 0 (.slice A2 P.length c2)).sw (k := w.heap.size + 1) (by omega) (by omega) 1 (.slice A3 Q.length c3))
  have F8 := Lib.hid (F2.out.chg X2.out (.inr (.inl hle)))
  have G8 := Lib.hid (HA2.out.trans (X2.out.below (.inl (Nat.le_refl _)) HA2.out.size))
  clear kk tt
  refine bodyPost_ret (v := .tuple #[.agg #[.int .i64 W, .int .i64 H, .slice none 0 0], .agg #[.slice A2 P.length c2, .slice A3 Q.length c3]]) (by simp [results, Tryd.results5, go_sem, r0, r1, r2, r3, r4]) rfl ⟨W, H, r, s, _, _, rfl, HF.out.1, HF.out.2, ?_, G8.out⟩
  rw [HPP.out, HQQ.out]
  exact F8.out.here.less (by omega)
end Go.Proofs.YtcmlnokfjbglaaaDoor
end

section
namespace Go.Proofs.YtcmlnokfjbglaaaDoor
open Go.ChangeShapes Go.WideShapes Go.ChangeAt Go.RowKit
set_option linter.unusedVariables false

theorem lawsBig (A : Option Addr) (n cap : Nat) (w : World) :
    Calls Tryd.prog 4 #[.slice A n cap] w fun e w' => e = .returned (.bool (decide (1048576 < n))) ∧ w = w' := by
  go_enter Tryd.func4, Tryd.ntmps4
  go_wp2_with fail
  go_ret
  exact ⟨ret_bool (by simp; omega), rfl⟩
end Go.Proofs.YtcmlnokfjbglaaaDoor
end

section
namespace Go.Proofs.YtcmlnokfjbglaaaDoor
open Go.ChangeShapes Go.WideShapes Go.ChangeAt Go.RowKit
set_option linter.unusedVariables false

theorem lawsSameInts (A1 A2 : Option Addr) (n c1 c2 B1 B2 : Nat) (L : List Int) (w : World) (h1 : IntAt w B1 A1 n L) (h2 : IntAt w B2 A2 n L) (hn : n ≤ 1000000000) :
    Calls Tryd.prog 9 #[.slice A1 n c1, .slice A2 n c2] w (RetB true w) := by
  have H1 := Lib.hid h1
  have H2 := Lib.hid h2
  clear h1 h2
  go_enter Tryd.func9, Tryd.ntmps9
  go_wp2_with fail
  go_loopw [5] (fun i wr => ∃ k m : Nat, i = .int .i64 k ∧ k ≤ n ∧ wr = w.drewN m) (fun i _ => n - (intOf i).toNat)
  case atStart => exact ⟨0, 0, rfl, Nat.zero_le _, rfl⟩
  case round =>
    obtain ⟨k, m, rfl, hk, rfl⟩ := hrel
    by_cases hlt : k < n
    · obtain ⟨g1, o1, rfl, _, e1⟩ := H1.out.at k hlt
      obtain ⟨g2, o2, rfl, _, e2⟩ := H2.out.at k hlt
      go_wp2_with fail
      go_quiet (fail)
      go_wp2_with fail
      go_roundw
      case rel => exact ⟨k + 1, _, by go_num, by omega, rfl⟩
      case measure => simp [intOf]; omega
    · go_wp2_with fail
      go_ret
      exact ⟨rfl, gb_drewN (gb_refl _ _) _⟩
end Go.Proofs.YtcmlnokfjbglaaaDoor
end

section
namespace Go.Proofs.YtcmlnokfjbglaaaDoor
open Go.ChangeShapes Go.WideShapes Go.ChangeAt Go.RowKit
set_option linter.unusedVariables false

abbrev Dep := Int × Int
def ltD (a b : Dep) : Bool := decide (a.1 < b.1 ∨ a.1 = b.1 ∧ a.2 < b.2)
theorem ltD_iff {a b : Dep} : ltD a b = true ↔ (a.1 < b.1 ∨ a.1 = b.1 ∧ a.2 < b.2) := by unfold ltD; exact decide_eq_true_iff
theorem ltD_no {a b : Dep} : ltD a b = false ↔ ¬ (a.1 < b.1 ∨ a.1 = b.1 ∧ a.2 < b.2) := by unfold ltD; exact decide_eq_false_iff_not
theorem ltD_irrefl (a : Dep) : ltD a a = false := ltD_no.2 (by omega)
theorem ltD_trans {a b c : Dep} (h : ltD a b = true) (k : ltD b c = true) : ltD a c = true := by
  rw [ltD_iff] at *; omega
theorem ltD_asymm {a b : Dep} (h : ltD a b = true) : ltD b a = false := by
  rw [ltD_iff] at h; rw [ltD_no]; omega
theorem ltD_tri {a b : Dep} (h : ltD a b = false) (k : a ≠ b) : ltD b a = true := by
  rw [ltD_no] at h; rw [ltD_iff]
  have : ¬ (a.1 = b.1 ∧ a.2 = b.2) := fun e => k (Prod.ext e.1 e.2)
  omega
/-- The comparison as a number. -/
def cmpI (x y : Int) : Int := if x < y then -1 else if y < x then 1 else 0
def cmpD (a b : Dep) : Int := if cmpI a.1 b.1 ≠ 0 then cmpI a.1 b.1 else cmpI a.2 b.2
theorem cmpI_zero {x y : Int} : cmpI x y = 0 ↔ x = y := by unfold cmpI; split <;> (try split) <;> omega
theorem cmpI_neg {x y : Int} : cmpI x y < 0 ↔ x < y := by unfold cmpI; split <;> (try split) <;> omega
theorem cmpD_neg {a b : Dep} : cmpD a b < 0 ↔ ltD a b = true := by
  rw [ltD_iff]
  unfold cmpD cmpI
  repeat' split
  all_goals omega
theorem cmpD_zero {a b : Dep} : cmpD a b = 0 ↔ a = b := by
  rw [Prod.ext_iff]
  unfold cmpD cmpI
  repeat' split
  all_goals omega
theorem cmpD_range (a b : Dep) : -1 ≤ cmpD a b ∧ cmpD a b ≤ 1 := by
  unfold cmpD cmpI
  repeat' split
  all_goals omega

def ascD (D : List Dep) : Prop := D.Pairwise (fun a b => ltD a b = true)
instance (D : List Dep) : Decidable (ascD D) := inferInstanceAs (Decidable (List.Pairwise _ _))
def atD (D : List Dep) (k : Nat) : Dep := D.getD k (0, 0)
theorem atD_get {D : List Dep} {k : Nat} (h : k < D.length) : atD D k = D[k] := by
  rw [atD, List.getD_eq_getElem?_getD, List.getElem?_eq_getElem h]; rfl
theorem atD_mem {D : List Dep} {k : Nat} (h : k < D.length) : atD D k ∈ D := by rw [atD_get h]; exact List.getElem_mem h
theorem atD_ex {D : List Dep} {d : Dep} (h : d ∈ D) : ∃ k, k < D.length ∧ atD D k = d := by
  obtain ⟨k, hk, e⟩ := List.getElem_of_mem h
  exact ⟨k, hk, by rw [atD_get hk, e]⟩
theorem asc_at {D : List Dep} (h : ascD D) {i j : Nat} (hij : i < j) (hj : j < D.length) : ltD (atD D i) (atD D j) = true := by
  rw [atD_get (by omega), atD_get hj]
  exact (List.pairwise_iff_getElem.1 h) i j (by omega) hj hij
theorem asc_of {D : List Dep} (h : ∀ i, i + 1 < D.length → ltD (atD D i) (atD D (i + 1)) = true) : ascD D := by
  rw [ascD, List.pairwise_iff_getElem]
  intro i j hi hj hij
  have key : ∀ t, i + t + 1 < D.length → ltD (atD D i) (atD D (i + t + 1)) = true := by
    intro t
    induction t with
    | zero => exact h i
    | succ t ih => exact fun ht => ltD_trans (ih (by omega)) (h (i + t + 1) ht)
  have := key (j - i - 1) (by omega)
  rw [show i + (j - i - 1) + 1 = j by omega, atD_get hi, atD_get hj] at this
  exact this
/-- Strictly ascending lists with the same elements are the same. -/
theorem asc_ext : ∀ (A B : List Dep), ascD A → ascD B → (∀ x, x ∈ A ↔ x ∈ B) → A = B
  | [], [], _, _, _ => rfl
  | [], b :: B, _, _, h => by have := (h b).2 (List.mem_cons_self ..); cases this
  | a :: A, [], _, _, h => by have := (h a).1 (List.mem_cons_self ..); cases this
  | a :: A, b :: B, hA, hB, h => by
    obtain ⟨ha, hA'⟩ := List.pairwise_cons.1 hA
    obtain ⟨hb, hB'⟩ := List.pairwise_cons.1 hB
    have e : a = b := by
      rcases List.mem_cons.1 ((h a).1 (List.mem_cons_self ..)) with e | h1
      · exact e
      · rcases List.mem_cons.1 ((h b).2 (List.mem_cons_self ..)) with e | h2
        · exact e.symm
        · have h3 := hb a h1; have h4 := ltD_asymm (ha b h2); rw [h4] at h3; cases h3
    subst e
    rw [asc_ext A B hA' hB' (fun x => ⟨fun hx => by
      rcases List.mem_cons.1 ((h x).1 (List.mem_cons_of_mem _ hx)) with e | h1
      · have := ha x hx; rw [e, ltD_irrefl] at this; cases this
      · exact h1, fun hx => by
      rcases List.mem_cons.1 ((h x).2 (List.mem_cons_of_mem _ hx)) with e | h1
      · have := hb x hx; rw [e, ltD_irrefl] at this; cases this
      · exact h1⟩)]

/-- How many elements at the head come before d. -/
def lowN (D : List Dep) (d : Dep) : Nat := (D.takeWhile (fun x => ltD x d)).length
theorem lowN_le (D : List Dep) (d : Dep) : lowN D d ≤ D.length := by
  unfold lowN
  exact (List.takeWhile_prefix _).length_le
theorem lowN_of : ∀ {D : List Dep} {d : Dep} {i : Nat}, i ≤ D.length → (∀ t, t < i → ltD (atD D t) d = true) → (i < D.length → ltD (atD D i) d = false) → lowN D d = i
  | [], d, i, hi, _, _ => by simp at hi; subst hi; rfl
  | a :: D, d, 0, hi, h1, h2 => by
    have := h2 (by simp)
    have : ltD a d = false := this
    simp [lowN, this]
  | a :: D, d, i + 1, hi, h1, h2 => by
    have h0 : ltD a d = true := h1 0 (by omega)
    have ih := lowN_of (D := D) (d := d) (i := i) (by simpa using hi) (fun t ht => h1 (t + 1) (by omega)) (fun hlt => h2 (by simpa using hlt))
    unfold lowN at ih ⊢
    simp [h0, ih]
theorem lowN_yes : ∀ {D : List Dep} {d : Dep} {t : Nat}, t < lowN D d → ltD (atD D t) d = true
  | [], d, t, h => by simp [lowN] at h
  | a :: D, d, t, h => by
    unfold lowN at h
    cases ha : ltD a d with
    | false => simp [ha] at h
    | true =>
      simp [ha] at h
      cases t with
      | zero => exact ha
      | succ t => exact lowN_yes (D := D) (d := d) (t := t) (by unfold lowN; omega)
theorem lowN_no : ∀ {D : List Dep} {d : Dep}, lowN D d < D.length → ltD (atD D (lowN D d)) d = false
  | [], d, h => by simp at h
  | a :: D, d, h => by
    cases ha : ltD a d with
    | false =>
      have e : lowN (a :: D) d = 0 := by simp [lowN, ha]
      rw [e]; exact ha
    | true =>
      have e : lowN (a :: D) d = lowN D d + 1 := by simp [lowN, ha]
      rw [e] at h ⊢
      exact lowN_no (D := D) (d := d) (by simpa using h)
theorem lowN_rest {D : List Dep} (hD : ascD D) {d : Dep} {t : Nat} (h : lowN D d ≤ t) (ht : t < D.length) : ltD (atD D t) d = false := by
  have h0 := lowN_no (D := D) (d := d) (by omega)
  by_cases e : lowN D d = t
  · rw [← e]; exact h0
  · have h1 := asc_at hD (show lowN D d < t by omega) ht
    cases h2 : ltD (atD D t) d with
    | false => rfl
    | true => rw [ltD_trans h1 h2] at h0; cases h0

/-- The list with d at its place, unless it is there. -/
def putD (D : List Dep) (d : Dep) : List Dep := D.take (lowN D d) ++ d :: D.drop (lowN D d)
def insD (D : List Dep) (d : Dep) : List Dep := if d ∈ D then D else putD D d
theorem ins_there {D : List Dep} {d : Dep} (h : d ∈ D) : insD D d = D := if_pos h
theorem ins_new {D : List Dep} {d : Dep} (h : d ∉ D) : insD D d = putD D d := if_neg h
/-- In an ascending list, d can stand at its place alone. -/
theorem there_iff {D : List Dep} (hD : ascD D) {d : Dep} : d ∈ D ↔ lowN D d < D.length ∧ atD D (lowN D d) = d := by
  constructor
  · intro h
    obtain ⟨k, hk, e⟩ := atD_ex h
    have h1 : ¬ k < lowN D d := fun h1 => by have := lowN_yes h1; rw [e, ltD_irrefl] at this; cases this
    have h2 : lowN D d = k := by
      rcases Nat.lt_or_eq_of_le (Nat.le_of_not_lt h1) with h2 | h2
      · have h3 := asc_at hD h2 hk
        rw [e] at h3
        have h4 := lowN_no (D := D) (d := d) (by omega)
        rw [h3] at h4; cases h4
      · exact h2
    rw [h2]; exact ⟨hk, e⟩
  · rintro ⟨h, e⟩
    rw [← e]; exact atD_mem h
theorem mem_put {D : List Dep} {d x : Dep} : x ∈ putD D d ↔ x = d ∨ x ∈ D := by
  unfold putD
  rw [List.mem_append, List.mem_cons]
  have : x ∈ D ↔ x ∈ D.take (lowN D d) ∨ x ∈ D.drop (lowN D d) := by rw [← List.mem_append, List.take_append_drop]
  rw [this]
  constructor
  · rintro (h | h | h)
    · exact .inr (.inl h)
    · exact .inl h
    · exact .inr (.inr h)
  · rintro (h | h | h)
    · exact .inr (.inl h)
    · exact .inl h
    · exact .inr (.inr h)
theorem mem_ins {D : List Dep} {d x : Dep} : x ∈ insD D d ↔ x = d ∨ x ∈ D := by
  unfold insD
  split
  · rename_i h
    exact ⟨.inr, fun e => e.elim (fun e => e ▸ h) id⟩
  · exact mem_put
theorem put_length (D : List Dep) (d : Dep) : (putD D d).length = D.length + 1 := by
  have := lowN_le D d
  simp [putD]; omega
theorem ins_length (D : List Dep) (d : Dep) : (insD D d).length ≤ D.length + 1 ∧ D.length ≤ (insD D d).length := by
  unfold insD
  split
  · omega
  · rw [put_length]; omega
theorem ins_asc {D : List Dep} (hD : ascD D) (d : Dep) : ascD (insD D d) := by
  unfold insD
  split
  · exact hD
  · rename_i hn
    have key : ∀ x ∈ D.drop (lowN D d), ltD d x = true := fun x hx => by
      obtain ⟨k, hk, e⟩ := List.getElem_of_mem hx
      have hk' : lowN D d + k < D.length := by simp at hk; omega
      have e' : atD D (lowN D d + k) = x := by rw [atD_get hk', ← e, List.getElem_drop]
      have := lowN_rest hD (d := d) (t := lowN D d + k) (by omega) hk'
      rw [e'] at this
      exact ltD_tri this (fun e2 => hn (by rw [← e2]; exact List.mem_of_mem_drop hx))
    refine List.pairwise_append.2 ⟨hD.sublist (List.take_sublist _ _), List.pairwise_cons.2 ⟨key, hD.sublist (List.drop_sublist _ _)⟩, ?_⟩
    intro a ha b hb
    have had : ltD a d = true := by
      obtain ⟨k, hk, e⟩ := List.getElem_of_mem ha
      have hk' : k < lowN D d := by simp at hk; omega
      have hl := lowN_le D d
      have e' : atD D k = a := by rw [atD_get (by omega), ← e, List.getElem_take]
      have := lowN_yes hk'
      rw [e'] at this; exact this
    rcases List.mem_cons.1 hb with rfl | hb
    · exact had
    · exact ltD_trans had (key b hb)
/-- What a list becomes by inserting others. -/
def insAll (D E : List Dep) : List Dep := E.foldl insD D
theorem insAll_asc {D : List Dep} (hD : ascD D) (E : List Dep) : ascD (insAll D E) := by
  induction E generalizing D with
  | nil => exact hD
  | cons e E ih => exact ih (ins_asc hD e)
theorem mem_insAll {D E : List Dep} {x : Dep} : x ∈ insAll D E ↔ x ∈ D ∨ x ∈ E := by
  induction E generalizing D with
  | nil => simp [insAll]
  | cons e E ih =>
    rw [insAll, List.foldl_cons]
    have := ih (D := insD D e)
    rw [insAll] at this
    rw [this, mem_ins, List.mem_cons]
    constructor
    · rintro ((h | h) | h)
      · exact .inr (.inl h)
      · exact .inl h
      · exact .inr (.inr h)
    · rintro (h | h | h)
      · exact .inl (.inr h)
      · exact .inl (.inl h)
      · exact .inr h
theorem insAll_length (D E : List Dep) : (insAll D E).length ≤ D.length + E.length ∧ D.length ≤ (insAll D E).length := by
  induction E generalizing D with
  | nil => simp [insAll]
  | cons e E ih =>
    have h1 := ih (D := insD D e)
    have h2 := ins_length D e
    rw [insAll] at h1
    rw [insAll, List.foldl_cons, List.length_cons]
    omega
theorem insAll_take {D E : List Dep} {k : Nat} (h : k < E.length) : insAll D (E.take (k + 1)) = insD (insAll D (E.take k)) (atD E k) := by
  rw [atD_get h, List.take_succ_eq_append_getElem h, insAll, List.foldl_append]
  rfl
theorem insAll_append (D E F : List Dep) : insAll D (E ++ F) = insAll (insAll D E) F := List.foldl_append
theorem asc_nil : ascD [] := List.Pairwise.nil

/-- Valid lists, merging, successors, shifting. -/
def inD (d : Dep) : Bool := decide (0 ≤ d.1 ∧ d.1 ≤ 127 ∧ 0 ≤ d.2 ∧ d.2 ≤ 127)
theorem inD_iff {d : Dep} : inD d = true ↔ 0 ≤ d.1 ∧ d.1 ≤ 127 ∧ 0 ≤ d.2 ∧ d.2 ≤ 127 := by unfold inD; exact decide_eq_true_iff
theorem inD_no {d : Dep} : inD d = false ↔ ¬ (0 ≤ d.1 ∧ d.1 ≤ 127 ∧ 0 ≤ d.2 ∧ d.2 ≤ 127) := by unfold inD; exact decide_eq_false_iff_not
/-- The element k is in the range and above the one ahead of it. -/
def stepD (D : List Dep) (k : Nat) : Bool := inD (atD D k) && (decide (k = 0) || ltD (atD D (k - 1)) (atD D k))
def okD (D : List Dep) : Bool := (List.range D.length).all (stepD D)
theorem okD_iff {D : List Dep} : okD D = true ↔ ∀ k, k < D.length → stepD D k = true := by
  unfold okD
  rw [List.all_eq_true]
  exact ⟨fun h k hk => h k (List.mem_range.2 hk), fun h k hk => h k (List.mem_range.1 hk)⟩
theorem okD_not {D : List Dep} {k : Nat} (hk : k < D.length) (h : stepD D k = false) : okD D = false := by
  cases ho : okD D with
  | false => rfl
  | true => rw [okD_iff.1 ho k hk] at h; cases h
theorem okD_asc {D : List Dep} (h : okD D = true) : ascD D := asc_of fun i hi => by
  have := okD_iff.1 h (i + 1) hi
  simp [stepD] at this
  exact this.2
theorem okD_in {D : List Dep} (h : okD D = true) {d : Dep} (hd : d ∈ D) : inD d = true := by
  obtain ⟨k, hk, rfl⟩ := atD_ex hd
  have := okD_iff.1 h k hk
  simp [stepD] at this
  exact this.1
theorem okD_of {D : List Dep} (h : ascD D) (k : ∀ d ∈ D, inD d = true) : okD D = true := okD_iff.2 fun i hi => by
  rw [stepD, k _ (atD_mem hi), Bool.true_and]
  cases i with
  | zero => rfl
  | succ i => rw [show i + 1 - 1 = i from rfl, asc_at h (Nat.lt_succ_self i) hi]; simp
def mergeD (A B : List Dep) : List Dep := if okD A && okD B then insAll A B else []
theorem merge_yes {A B : List Dep} (ha : okD A = true) (hb : okD B = true) : mergeD A B = insAll A B := by simp [mergeD, ha, hb]
theorem merge_no1 {A B : List Dep} (ha : okD A = false) : mergeD A B = [] := by simp [mergeD, ha]
theorem merge_no2 {A B : List Dep} (hb : okD B = false) : mergeD A B = [] := by simp [mergeD, hb]
theorem merge_length (A B : List Dep) : (mergeD A B).length ≤ A.length + B.length := by
  unfold mergeD
  split
  · exact (insAll_length A B).1
  · simp
def succD (D : List Dep) (c : Int) : List Int := (D.filter fun d => decide (d.1 = c)).map (·.2)
theorem succ_length (D : List Dep) (c : Int) : (succD D c).length ≤ D.length := by
  unfold succD
  rw [List.length_map]
  exact List.length_filter_le _ _
theorem succ_yes {D : List Dep} {c : Int} {k : Nat} (hk : k < D.length) (h : (atD D k).1 = c) : succD (D.take (k + 1)) c = succD (D.take k) c ++ [(atD D k).2] := by
  rw [atD_get hk] at h ⊢
  rw [List.take_succ_eq_append_getElem hk, succD, succD, List.filter_append, List.map_append]
  simp [h]
theorem succ_no {D : List Dep} {c : Int} {k : Nat} (hk : k < D.length) (h : ¬ (atD D k).1 = c) : succD (D.take (k + 1)) c = succD (D.take k) c := by
  rw [atD_get hk] at h
  rw [List.take_succ_eq_append_getElem hk, succD, succD, List.filter_append, List.map_append]
  simp [h]
theorem succ_all (D : List Dep) (c : Int) : succD (D.take D.length) c = succD D c := by rw [List.take_length]
theorem mem_succ {D : List Dep} {d : Dep} (h : d ∈ D) : d.2 ∈ succD D d.1 := by
  unfold succD
  exact List.mem_map.2 ⟨d, List.mem_filter.2 ⟨h, by simp⟩, rfl⟩
def moveD (D : List Dep) (by_ : Int) : List Dep := D.map fun d => (d.1 + by_, d.2 + by_)
theorem move_length (D : List Dep) (z : Int) : (moveD D z).length = D.length := List.length_map ..
theorem move_at {D : List Dep} (z : Int) {k : Nat} (h : k < D.length) : atD (moveD D z) k = ((atD D k).1 + z, (atD D k).2 + z) := by
  rw [atD_get (by rw [move_length]; exact h), atD_get h]
  simp [moveD]
theorem move_next {D : List Dep} (z : Int) {k : Nat} (h : k < D.length) : moveD (D.take (k + 1)) z = moveD (D.take k) z ++ [((atD D k).1 + z, (atD D k).2 + z)] := by
  rw [atD_get h, List.take_succ_eq_append_getElem h, moveD, moveD, List.map_append]
  rfl
def inS (z : Int) : Bool := decide (-1000 ≤ z ∧ z ≤ 1000)
def shiftD (D : List Dep) (z : Int) : List Dep := if okD D && inS z && okD (moveD D z) then moveD D z else []
theorem shift_yes {D : List Dep} {z : Int} (h : okD D = true) (hz : inS z = true) (hm : okD (moveD D z) = true) : shiftD D z = moveD D z := by simp [shiftD, h, hz, hm]
theorem shift_no1 {D : List Dep} {z : Int} (h : okD D = false) : shiftD D z = [] := by simp [shiftD, h]
theorem shift_no2 {D : List Dep} {z : Int} (h : inS z = false) : shiftD D z = [] := by simp [shiftD, h]
theorem shift_no3 {D : List Dep} {z : Int} (h : okD (moveD D z) = false) : shiftD D z = [] := by simp [shiftD, h]
theorem shift_length (D : List Dep) (z : Int) : (shiftD D z).length ≤ D.length := by
  unfold shiftD
  split
  · rw [move_length]; exact Nat.le_refl _
  · simp
end Go.Proofs.YtcmlnokfjbglaaaDoor
end

section
namespace Go.Proofs.YtcmlnokfjbglaaaDoor
open Go.ChangeShapes Go.WideShapes Go.ChangeAt Go.RowKit
set_option linter.unusedVariables false

/-- The node at the end of a channel. -/
def endC (W H c : Int) : Int := nextG W H (c / 4) (c % 4)
/-- Channel i of a route exists and begins where the one before ends. -/
def linkG (W H : Int) (L r : List Int) (i : Nat) : Bool := hasChG W H L (r.getD i 0) && (decide (i = 0) || decide (r.getD i 0 / 4 = endC W H (r.getD (i - 1) 0)))
def routeG (W H : Int) (L r : List Int) : Bool := meshG W H L && decide (0 < r.length) && (List.range r.length).all (linkG W H L r)
/-- The nodes of the first k channels. -/
def nodesTo (W H : Int) (r : List Int) (k : Nat) : List Int := (r.getD 0 0 / 4) :: (r.take k).map (endC W H)
def nodesG (W H : Int) (L r : List Int) : List Int := if routeG W H L r then nodesTo W H r r.length else []
/-- No number of a list is one of those before it, and there is one. -/
def freeAt (N : List Int) (i : Nat) : Bool := !inG (N.take i) (N.getD i 0)
def freeG (N : List Int) : Bool := decide (0 < N.length) && (List.range N.length).all (freeAt N)
def joinG (W H : Int) (L a b : List Int) : List Int := if routeG W H L (a ++ b) then a ++ b else []
/-- The channel between the same nodes in the other direction. -/
def backC (W H c : Int) : Int := 4 * endC W H c + oppG (c % 4)
/-- The channels back, from the last one on: the first k of them. -/
def backTo (W H : Int) (r : List Int) (k : Nat) : List Int := (r.reverse.take k).map (backC W H)
def backOk (W H : Int) (L r : List Int) : Bool := routeG W H L r && r.all fun c => hasChG W H L (backC W H c)
def backG (W H : Int) (L r : List Int) : List Int := if backOk W H L r then r.reverse.map (backC W H) else []

section
variable {W H : Int} {L r : List Int}
def linksTo (W H : Int) (L r : List Int) (k : Nat) : Prop := ∀ j, j < k → linkG W H L r j = true
theorem links_zero : linksTo W H L r 0 := fun _ h => by omega
theorem links_succ {k : Nat} (h : linksTo W H L r k) (hk : linkG W H L r k = true) : linksTo W H L r (k + 1) := fun j hj => by
  rcases Nat.lt_succ_iff_lt_or_eq.1 hj with h1 | rfl
  · exact h j h1
  · exact hk
theorem route_yes (hm : meshG W H L = true) (h0 : 0 < r.length) (h : linksTo W H L r r.length) : routeG W H L r = true := by
  simp only [routeG, hm, Bool.true_and, decide_eq_true h0, List.all_eq_true, List.mem_range]; exact h
theorem route_no {i : Nat} (hi : i < r.length) (h : linkG W H L r i = false) : routeG W H L r = false := by
  cases hr : routeG W H L r with
  | false => rfl
  | true =>
    simp only [routeG, Bool.and_eq_true, List.all_eq_true, List.mem_range] at hr
    have := hr.2 i hi
    rw [h] at this
    cases this
theorem route_mesh (h : meshG W H L = false) : routeG W H L r = false := by simp [routeG, h]
theorem route_nil : routeG W H L [] = false := by simp [routeG]
theorem route_all (h : routeG W H L r = true) : meshG W H L = true ∧ 0 < r.length ∧ linksTo W H L r r.length := by
  simp only [routeG, Bool.and_eq_true, List.all_eq_true, List.mem_range, decide_eq_true_eq] at h
  exact ⟨h.1.1, h.1.2, h.2⟩
theorem route_pos (h : routeG W H L r = true) : 0 < r.length := (route_all h).2.1
theorem link_has {i : Nat} (h : linkG W H L r i = true) : hasChG W H L (r.getD i 0) = true := by simp only [linkG, Bool.and_eq_true] at h; exact h.1
theorem link_lost {i : Nat} {c : Int} (hc : r.getD i 0 = c) (h : hasChG W H L c = false) : linkG W H L r i = false := by unfold linkG; rw [hc, h, Bool.false_and]
theorem link_first {c : Int} (hc : r.getD 0 0 = c) (h : hasChG W H L c = true) : linkG W H L r 0 = true := by simp only [linkG, hc, h, decide_true, Bool.true_or, Bool.and_self]
theorem link_next {i : Nat} {c x : Int} (hc : r.getD (i + 1) 0 = c) (hx : endC W H (r.getD i 0) = x) (h : hasChG W H L c = true) : linkG W H L r (i + 1) = decide (c / 4 = x) := by
  simp only [linkG, Nat.add_sub_cancel, hc, hx, h, Bool.true_and]
  simp
/-- Where the first k channels have led. -/
def atR (W H : Int) (r : List Int) (k : Nat) : Int := if k = 0 then r.getD 0 0 / 4 else endC W H (r.getD (k - 1) 0)
theorem link_at {k : Nat} {c : Int} (hc : r.getD k 0 = c) (h : hasChG W H L c = true) : linkG W H L r k = decide (c / 4 = atR W H r k) := by
  cases k with
  | zero => rw [link_first hc h, atR, if_pos rfl, hc]; simp
  | succ k => rw [link_next hc rfl h, atR, if_neg (by omega), Nat.add_sub_cancel]
theorem atR_succ (k : Nat) : atR W H r (k + 1) = endC W H (r.getD k 0) := by rw [atR, if_neg (by omega), Nat.add_sub_cancel]
theorem route_snoc {k : Nat} {c : Int} (hk : k < r.length) (hc : r.getD k 0 = c) : r.take (k + 1) = r.take k ++ [c] := by
  rw [List.take_add_one, List.getElem?_eq_getElem hk, ← hc, List.getD_eq_getElem?_getD, List.getElem?_eq_getElem hk]; rfl
theorem nodesTo_zero : nodesTo W H r 0 = [r.getD 0 0 / 4] := rfl
theorem nodesTo_succ {k : Nat} {c : Int} (hk : k < r.length) (hc : r.getD k 0 = c) : nodesTo W H r (k + 1) = nodesTo W H r k ++ [endC W H c] := by
  unfold nodesTo
  rw [route_snoc hk hc]
  simp
theorem nodesTo_len {k : Nat} (hk : k ≤ r.length) : (nodesTo W H r k).length = k + 1 := by simp [nodesTo]; omega
theorem nodesTo_last {k : Nat} (hk : k ≤ r.length) : (nodesTo W H r k).getD k 0 = atR W H r k := by
  cases k with
  | zero => rfl
  | succ k =>
    have hl := nodesTo_len (W := W) (H := H) (r := r) (k := k) (by omega)
    rw [nodesTo_succ (c := r.getD k 0) (by omega) rfl, atR_succ, List.getD_eq_getElem?_getD, List.getElem?_append_right (by omega), hl, Nat.sub_self]
    rfl
theorem nodes_yes (h : routeG W H L r = true) : nodesG W H L r = nodesTo W H r r.length := if_pos h
theorem nodes_no (h : routeG W H L r = false) : nodesG W H L r = [] := by simp [nodesG, h]
theorem nodes_len (h : routeG W H L r = true) : (nodesG W H L r).length = r.length + 1 := by rw [nodes_yes h, nodesTo_len (Nat.le_refl _)]
theorem nodes_pos : decide (0 < (nodesG W H L r).length) = routeG W H L r := by
  cases h : routeG W H L r with
  | false => rw [nodes_no h]; rfl
  | true => rw [nodes_len h]; simp
theorem nodes_le : (nodesG W H L r).length ≤ r.length + 1 := by
  cases h : routeG W H L r with
  | false => rw [nodes_no h]; simp
  | true => exact Nat.le_of_eq (nodes_len h)

def freeTo (N : List Int) (k : Nat) : Prop := ∀ j, j < k → freeAt N j = true
theorem free_zero (N : List Int) : freeTo N 0 := fun _ h => by omega
theorem free_succ {N : List Int} {k : Nat} (h : freeTo N k) (hk : freeAt N k = true) : freeTo N (k + 1) := fun j hj => by
  rcases Nat.lt_succ_iff_lt_or_eq.1 hj with h1 | rfl
  · exact h j h1
  · exact hk
theorem free_yes {N : List Int} (h : freeTo N N.length) : freeG N = decide (0 < N.length) := by
  have : (List.range N.length).all (freeAt N) = true := by simp only [List.all_eq_true, List.mem_range]; exact h
  simp [freeG, this]
theorem free_no {N : List Int} {i : Nat} (hi : i < N.length) (h : freeAt N i = false) : freeG N = false := by
  have : (List.range N.length).all (freeAt N) = false := by rw [List.all_eq_false]; exact ⟨i, List.mem_range.2 hi, by rw [h]; decide⟩
  simp [freeG, this]
theorem free_at {N : List Int} {i : Nat} {x : Int} {b : Bool} (hx : N.getD i 0 = x) (h : inG (N.take i) x = b) : freeAt N i = !b := by simp only [freeAt, hx, h]

theorem back_zero : backTo W H r 0 = [] := rfl
theorem rev_at {k : Nat} {c : Int} (hk : k < r.length) (hc : r.getD (r.length - 1 - k) 0 = c) : r.reverse[k]? = some c := by
  rw [List.getElem?_reverse hk, ← hc, List.getD_eq_getElem?_getD, List.getElem?_eq_getElem (by omega)]; rfl
theorem back_succ {k : Nat} {c : Int} (hk : k < r.length) (hc : r.getD (r.length - 1 - k) 0 = c) : backTo W H r (k + 1) = backTo W H r k ++ [backC W H c] := by
  unfold backTo
  rw [List.take_add_one, rev_at hk hc]
  simp
theorem back_len {k : Nat} (hk : k ≤ r.length) : (backTo W H r k).length = k := by simp [backTo]; omega
theorem back_full : backTo W H r r.length = r.reverse.map (backC W H) := by unfold backTo; rw [List.take_of_length_le (by simp)]
/-- The first k channels back exist. -/
def backsTo (W H : Int) (L r : List Int) (k : Nat) : Prop := ∀ j, j < k → hasChG W H L (backC W H (r.getD (r.length - 1 - j) 0)) = true
theorem backs_zero : backsTo W H L r 0 := fun _ h => by omega
theorem backs_succ {k : Nat} {c : Int} (h : backsTo W H L r k) (hc : r.getD (r.length - 1 - k) 0 = c) (hk : hasChG W H L (backC W H c) = true) : backsTo W H L r (k + 1) := fun j hj => by
  rcases Nat.lt_succ_iff_lt_or_eq.1 hj with h1 | rfl
  · exact h j h1
  · rw [hc]; exact hk
theorem backs_all (h : backsTo W H L r r.length) : (r.all fun c => hasChG W H L (backC W H c)) = true := by
  rw [List.all_eq_true]
  intro c hc
  obtain ⟨j, hj, rfl⟩ := List.getElem_of_mem hc
  have := h (r.length - 1 - j) (by omega)
  rw [show r.length - 1 - (r.length - 1 - j) = j by omega, List.getD_eq_getElem?_getD, List.getElem?_eq_getElem hj] at this
  exact this
theorem backOk_yes (hr : routeG W H L r = true) (h : backsTo W H L r r.length) : backOk W H L r = true := by rw [backOk, hr, backs_all h]; rfl
theorem backOk_no {c : Int} {i : Nat} (hi : i < r.length) (hc : r.getD i 0 = c) (h : hasChG W H L (backC W H c) = false) : backOk W H L r = false := by
  have hm : c ∈ r := by rw [← hc, List.getD_eq_getElem?_getD, List.getElem?_eq_getElem hi]; exact List.getElem_mem hi
  cases hb : backOk W H L r with
  | false => rfl
  | true =>
    simp only [backOk, Bool.and_eq_true, List.all_eq_true] at hb
    have := hb.2 c hm
    rw [h] at this
    cases this
theorem backOk_route (h : routeG W H L r = false) : backOk W H L r = false := by simp [backOk, h]
theorem backG_yes (h : backOk W H L r = true) : backG W H L r = backTo W H r r.length := by rw [backG, if_pos h, back_full]
theorem backG_no (h : backOk W H L r = false) : backG W H L r = [] := by simp [backG, h]
theorem backG_le : (backG W H L r).length ≤ r.length := by
  cases h : backOk W H L r with
  | false => rw [backG_no h]; simp
  | true => rw [backG_yes h, back_len (Nat.le_refl _)]; exact Nat.le_refl _
theorem joinG_yes {a b : List Int} (h : routeG W H L (a ++ b) = true) : joinG W H L a b = a ++ b := if_pos h
theorem joinG_no {a b : List Int} (h : routeG W H L (a ++ b) = false) : joinG W H L a b = [] := by simp [joinG, h]
theorem joinG_le {a b : List Int} : (joinG W H L a b).length ≤ a.length + b.length := by
  unfold joinG
  split
  · simp
  · simp
theorem endC_le (W H c : Int) : -1 ≤ endC W H c ∧ endC W H c ≤ 15 := nextG_le _ _ _ _
theorem oppG_le (p : Int) : -1 ≤ oppG p ∧ oppG p ≤ 4 := by
  unfold oppG
  repeat' split
  all_goals omega
theorem backC_le (W H c : Int) : -5 ≤ backC W H c ∧ backC W H c ≤ 64 := by
  have h1 := endC_le W H c
  have h2 := oppG_le (c % 4)
  unfold backC; omega
theorem has_leads {c : Int} (h : hasChG W H L c = true) : 0 ≤ c ∧ c < 4 * countG W H ∧ 0 ≤ endC W H c := by
  simp only [hasChG, Bool.and_eq_true, leadsG, decide_eq_true_eq] at h
  exact h.1
theorem has_ok {c : Int} (h : hasChG W H L c = true) : okG W H = true := by
  have h1 := (has_leads h).2.2
  unfold endC nextG at h1
  split at h1
  · rename_i hh; exact (hasG_ok hh).1
  · omega
/-- The nodes of the first k channels, the first node being z. -/
def nodesZ (W H : Int) (r : List Int) (z : Int) (k : Nat) : List Int := z :: (r.take k).map (endC W H)
def atZ (W H : Int) (r : List Int) (z : Int) (k : Nat) : Int := if k = 0 then z else endC W H (r.getD (k - 1) 0)
theorem nodesZ_zero (z : Int) : nodesZ W H r z 0 = [z] := rfl
theorem nodesZ_succ {z : Int} {k : Nat} {c : Int} (hk : k < r.length) (hc : r.getD k 0 = c) : nodesZ W H r z (k + 1) = nodesZ W H r z k ++ [endC W H c] := by
  unfold nodesZ
  rw [route_snoc hk hc]
  simp
theorem nodesZ_len {z : Int} {k : Nat} (hk : k ≤ r.length) : (nodesZ W H r z k).length = k + 1 := by simp [nodesZ]; omega
theorem atZ_succ (z : Int) {k : Nat} {c y : Int} (hc : r.getD k 0 = c) (hy : endC W H c = y) : atZ W H r z (k + 1) = y := by rw [atZ, if_neg (by omega), Nat.add_sub_cancel, hc, hy]
theorem link_z {z : Int} {k : Nat} {c : Int} (hz : 0 ≤ r.getD 0 0 → z = r.getD 0 0 / 4) (hc : r.getD k 0 = c) (h : hasChG W H L c = true) (h0 : 0 ≤ c) : linkG W H L r k = decide (c / 4 = atZ W H r z k) := by
  rw [link_at hc h]
  cases k with
  | zero => rw [atR, atZ, if_pos rfl, if_pos rfl, hz (by rw [hc]; exact h0)]
  | succ k => rw [atR, atZ, if_neg (by omega), if_neg (by omega)]
theorem nodes_z {z : Int} (hz : 0 ≤ r.getD 0 0 → z = r.getD 0 0 / 4) (hm : meshG W H L = true) (h0 : 0 < r.length) (h : linksTo W H L r r.length) : nodesG W H L r = nodesZ W H r z r.length := by
  have hl := (has_leads (link_has (h 0 h0))).1
  rw [nodes_yes (route_yes hm h0 h), nodesTo, nodesZ, hz hl]
end
end Go.Proofs.YtcmlnokfjbglaaaDoor
end

section
namespace Go.Proofs.YtcmlnokfjbglaaaDoor
open Go.ChangeShapes Go.WideShapes Go.ChangeAt Go.RowKit
set_option linter.unusedVariables false

theorem place_at {W H x y : Int} (hok : okG W H = true) (hx0 : 0 ≤ x) (hx1 : x < W) (hy0 : 0 ≤ y) (hy1 : y < H) :
    hasG W H (y * W + x) = true ∧ (y * W + x) % W = x ∧ (y * W + x) / W = y := by
  obtain ⟨hW, hH⟩ := okG_cases hok
  have hc : countG W H = W * H := by simp [countG, hok]
  rw [hasG_iff, hc]
  rcases hW with rfl | rfl | rfl | rfl <;> rcases hH with rfl | rfl | rfl | rfl <;> omega
theorem atG_of {W H x y : Int} (h : 0 ≤ atG W H x y) : okG W H = true ∧ 0 ≤ x ∧ x < W ∧ 0 ≤ y ∧ y < H ∧ atG W H x y = y * W + x := by
  unfold atG at h ⊢
  split at h
  · rename_i hc
    exact ⟨hc.1, hc.2.1, hc.2.2.1, hc.2.2.2.1, hc.2.2.2.2, by rw [if_pos hc]⟩
  · omega
theorem atG_in {W H x y : Int} (hok : okG W H = true) (hx0 : 0 ≤ x) (hx1 : x < W) (hy0 : 0 ≤ y) (hy1 : y < H) : atG W H x y = y * W + x := by
  unfold atG
  rw [if_pos ⟨hok, hx0, hx1, hy0, hy1⟩]
theorem next0 {W H n : Int} (h : hasG W H n = true) : nextG W H n 0 = atG W H (n % W) (n / W - 1) := by simp [nextG, h]
theorem next1 {W H n : Int} (h : hasG W H n = true) : nextG W H n 1 = atG W H (n % W + 1) (n / W) := by simp [nextG, h]
theorem next2 {W H n : Int} (h : hasG W H n = true) : nextG W H n 2 = atG W H (n % W) (n / W + 1) := by simp [nextG, h]
theorem next3 {W H n : Int} (h : hasG W H n = true) : nextG W H n 3 = atG W H (n % W - 1) (n / W) := by simp [nextG, h]
theorem next4 {W H n : Int} (h : hasG W H n = true) : nextG W H n 4 = n := by simp [nextG, h]

/-- One step to (dx, dy), and back. -/
theorem step_back {W H a b dx dy : Int} (ha : hasG W H a = true) (hb : atG W H (a % W + dx) (a / W + dy) = b) (h0 : 0 ≤ b) (hd : absI dx + absI dy = 1) :
    hasG W H b = true ∧ b % W = a % W + dx ∧ b / W = a / W + dy ∧ distG W H a b = 1 ∧ atG W H (b % W - dx) (b / W - dy) = a := by
  obtain ⟨hok, x0, x1, y0, y1, he⟩ := atG_of (by rw [hb]; exact h0)
  obtain ⟨p1, p2, p3⟩ := place_at hok x0 x1 y0 y1
  have hbe : b = (a / W + dy) * W + (a % W + dx) := by rw [← hb]; exact he
  rw [← hbe] at p1 p2 p3
  obtain ⟨q0, q1, q2, q3, q4⟩ := place_of ha
  refine ⟨p1, p2, p3, ?_, ?_⟩
  · rw [distG_ok ha p1, p2, p3, show a % W - (a % W + dx) = -dx by omega, show a / W - (a / W + dy) = -dy by omega, absI_neg, absI_neg]
    exact hd
  · rw [p2, p3, show a % W + dx - dx = a % W by omega, show a / W + dy - dy = a / W by omega, atG_in hok q0 q1 q2 q3, q4]

/-- What the law on neighbors asks of one port. -/
theorem neigh_fact {W H a q : Int} (ha : hasG W H a = true) (h0 : 0 ≤ q) (h1 : q ≤ 3) :
    ∃ b o : Int, nextG W H a q = b ∧ oppG q = o ∧ 0 ≤ o ∧ o ≤ 3 ∧ o ≠ q ∧ oppG o = q ∧ (0 ≤ b → nextG W H b o = a ∧ distG W H a b = 1) ∧ -1 ≤ b ∧ b ≤ 15 := by
  have hle := nextG_le W H a q
  have hq : q = 0 ∨ q = 1 ∨ q = 2 ∨ q = 3 := by omega
  rcases hq with rfl | rfl | rfl | rfl
  · refine ⟨_, 2, rfl, by decide, by omega, by omega, by omega, by decide, fun hb => ?_, hle⟩
    have hn := next0 ha
    obtain ⟨k1, k2, k3, k4, k5⟩ := step_back (dx := 0) (dy := -1) ha (b := nextG W H a 0) (by rw [hn, show a % W + 0 = a % W by omega, show a / W + -1 = a / W - 1 by omega]) hb (by decide)
    refine ⟨?_, k4⟩
    rw [next2 k1]
    rwa [show nextG W H a 0 % W - 0 = nextG W H a 0 % W by omega, show nextG W H a 0 / W - -1 = nextG W H a 0 / W + 1 by omega] at k5
  · refine ⟨_, 3, rfl, by decide, by omega, by omega, by omega, by decide, fun hb => ?_, hle⟩
    have hn := next1 ha
    obtain ⟨k1, k2, k3, k4, k5⟩ := step_back (dx := 1) (dy := 0) ha (b := nextG W H a 1) (by rw [hn, show a / W + 0 = a / W by omega]) hb (by decide)
    refine ⟨?_, k4⟩
    rw [next3 k1]
    rwa [show nextG W H a 1 / W - 0 = nextG W H a 1 / W by omega] at k5
  · refine ⟨_, 0, rfl, by decide, by omega, by omega, by omega, by decide, fun hb => ?_, hle⟩
    have hn := next2 ha
    obtain ⟨k1, k2, k3, k4, k5⟩ := step_back (dx := 0) (dy := 1) ha (b := nextG W H a 2) (by rw [hn, show a % W + 0 = a % W by omega]) hb (by decide)
    refine ⟨?_, k4⟩
    rw [next0 k1]
    rwa [show nextG W H a 2 % W - 0 = nextG W H a 2 % W by omega] at k5
  · refine ⟨_, 1, rfl, by decide, by omega, by omega, by omega, by decide, fun hb => ?_, hle⟩
    have hn := next3 ha
    obtain ⟨k1, k2, k3, k4, k5⟩ := step_back (dx := -1) (dy := 0) ha (b := nextG W H a 3) (by rw [hn, show a / W + 0 = a / W by omega, show a % W + -1 = a % W - 1 by omega]) hb (by decide)
    refine ⟨?_, k4⟩
    rw [next1 k1]
    rwa [show nextG W H a 3 / W - 0 = nextG W H a 3 / W by omega, show nextG W H a 3 % W - -1 = nextG W H a 3 % W + 1 by omega] at k5
end Go.Proofs.YtcmlnokfjbglaaaDoor
end

section
namespace Go.Proofs.YtcmlnokfjbglaaaDoor
open Go.ChangeShapes Go.WideShapes Go.ChangeAt Go.RowKit
set_option linter.unusedVariables false

section
variable {W H : Int} {L r : List Int}
/-- The channel back of a channel that leads somewhere. -/
theorem back_lead {c : Int} (h0 : 0 ≤ c) (h1 : c < 4 * countG W H) (h2 : 0 ≤ endC W H c) : leadsG W H (backC W H c) = true ∧ backC W H c / 4 = endC W H c ∧ endC W H (backC W H c) = c / 4 ∧ backC W H (backC W H c) = c := by
  have ha : hasG W H (c / 4) = true := hasG_iff.2 ⟨by omega, by omega⟩
  obtain ⟨b, o, hb, ho, o0, o3, _, hoo, hbk, _⟩ := neigh_fact (q := c % 4) ha (by omega) (by omega)
  have he : endC W H c = b := hb
  have hbb : backC W H c = 4 * b + o := by rw [backC, he, ho]
  rw [he] at h2 ⊢
  have h4 : (4 * b + o) / 4 = b := by omega
  have h5 : (4 * b + o) % 4 = o := by omega
  have h6 : endC W H (4 * b + o) = c / 4 := by rw [endC, h4, h5]; exact (hbk h2).1
  have hh := (hasG_iff.1 (next_has (W := W) (H := H) (n := c / 4) (p := c % 4) (by rw [hb]; exact h2))).2
  rw [hb] at hh
  rw [hbb]
  refine ⟨?_, h4, h6, ?_⟩
  · have h7 : 0 ≤ nextG W H ((4 * b + o) / 4) ((4 * b + o) % 4) := by show 0 ≤ endC W H (4 * b + o); rw [h6]; omega
    simp only [leadsG, decide_eq_true_eq]
    exact ⟨by omega, by omega, h7⟩
  · rw [backC, h6, h5, hoo]; omega
theorem back_has {c : Int} (h : hasChG W H L c = true) : leadsG W H (backC W H c) = true ∧ backC W H c / 4 = endC W H c ∧ endC W H (backC W H c) = c / 4 ∧ backC W H (backC W H c) = c := by
  obtain ⟨h0, h1, h2⟩ := has_leads h
  exact back_lead h0 h1 h2
theorem route_at (h : routeG W H L r = true) {j : Nat} (hj : j < r.length) : hasChG W H L (r.getD j 0) = true ∧ r.getD j 0 / 4 = atR W H r j := by
  have hl := (route_all h).2.2 j hj
  have hh := link_has hl
  refine ⟨hh, ?_⟩
  rw [link_at rfl hh] at hl
  exact of_decide_eq_true hl
theorem nodes_at (h : routeG W H L r = true) {j : Nat} (hj : j ≤ r.length) : (nodesG W H L r).getD j 0 = atR W H r j := by
  rw [nodes_yes h, nodesTo, List.take_of_length_le (Nat.le_refl _)]
  cases j with
  | zero => rfl
  | succ j => rw [atR_succ, List.getD_cons_succ, List.getD_eq_getElem?_getD, List.getElem?_map, List.getD_eq_getElem?_getD, List.getElem?_eq_getElem (by omega)]; rfl
theorem rev_get (hn : 0 < r.length) {j : Nat} (hj : j < r.length) : (r.reverse.map (backC W H)).getD j 0 = backC W H (r.getD (r.length - 1 - j) 0) := by
  rw [List.getD_eq_getElem?_getD, List.getElem?_map, List.getElem?_reverse hj, List.getD_eq_getElem?_getD, List.getElem?_eq_getElem (by omega)]; rfl
theorem backOk_all (h : backOk W H L r = true) : routeG W H L r = true ∧ ∀ j, j < r.length → hasChG W H L (backC W H (r.getD j 0)) = true := by
  simp only [backOk, Bool.and_eq_true, List.all_eq_true] at h
  refine ⟨h.1, fun j hj => h.2 _ ?_⟩
  rw [List.getD_eq_getElem?_getD, List.getElem?_eq_getElem hj]
  exact List.getElem_mem hj
/-- The route back. -/
theorem back_route (h : backOk W H L r = true) : routeG W H L (backG W H L r) = true ∧ (backG W H L r).length = r.length ∧
    (∀ j, j < r.length → (backG W H L r).getD j 0 = backC W H (r.getD (r.length - 1 - j) 0)) ∧ ∀ j, j ≤ r.length → atR W H (backG W H L r) j = atR W H r (r.length - j) := by
  obtain ⟨hr, hb⟩ := backOk_all h
  have hn := route_pos hr
  have hB : backG W H L r = r.reverse.map (backC W H) := if_pos h
  have hlen : (backG W H L r).length = r.length := by rw [hB]; simp
  have hg : ∀ j, j < r.length → (backG W H L r).getD j 0 = backC W H (r.getD (r.length - 1 - j) 0) := fun j hj => by rw [hB]; exact rev_get hn hj
  have hat : ∀ j, j ≤ r.length → atR W H (backG W H L r) j = atR W H r (r.length - j) := fun j hj => by
    cases j with
    | zero =>
      rw [atR, if_pos rfl, hg 0 hn, (back_has (route_at hr (j := r.length - 1 - 0) (by omega)).1).2.1, atR, if_neg (by omega)]
      congr 2
    | succ j =>
      obtain ⟨q1, q2⟩ := route_at hr (j := r.length - 1 - j) (by omega)
      rw [atR_succ, hg j (by omega), (back_has q1).2.2.1, q2]
      congr 1
      omega
  refine ⟨route_yes (route_all hr).1 (by omega) (fun j hj => ?_), hlen, hg, hat⟩
  rw [hlen] at hj
  have q1 := (route_at hr (j := r.length - 1 - j) (by omega)).1
  rw [link_at (hg j hj) (hb _ (by omega)), hat j (by omega), (back_has q1).2.1, atR, if_neg (by omega)]
  refine decide_eq_true ?_
  congr 2
  omega
theorem back_back (h : backOk W H L r = true) : backOk W H L (backG W H L r) = true ∧ backG W H L (backG W H L r) = r := by
  obtain ⟨hr, hb⟩ := backOk_all h
  obtain ⟨h1, h2, h3, h4⟩ := back_route h
  have hall : backsTo W H L (backG W H L r) (backG W H L r).length := fun j hj => by
    rw [h2] at hj
    rw [h2, h3 _ (by omega)]
    have q1 := (route_at hr (j := r.length - 1 - (r.length - 1 - j)) (by omega)).1
    rw [(back_has q1).2.2.2]
    exact q1
  have hk := backOk_yes h1 hall
  refine ⟨hk, ?_⟩
  obtain ⟨_, g2, g3, _⟩ := back_route hk
  refine List.ext_getElem (by rw [g2, h2]) fun i i1 i2 => ?_
  have e1 := g3 i (by rw [h2]; omega)
  rw [h2, h3 _ (by omega)] at e1
  have q1 := (route_at hr (j := r.length - 1 - (r.length - 1 - i)) (by omega)).1
  rw [(back_has q1).2.2.2] at e1
  rw [List.getD_eq_getElem?_getD, List.getD_eq_getElem?_getD, List.getElem?_eq_getElem (by omega), List.getElem?_eq_getElem (by omega)] at e1
  simp only [Option.getD_some] at e1
  rw [e1]
  congr 1
  omega
theorem back_round (h : backOk W H L r = true) : routeG W H L (r ++ backG W H L r) = true := by
  obtain ⟨hr, hb⟩ := backOk_all h
  obtain ⟨h1, h2, h3, h4⟩ := back_route h
  have ga : ∀ j, j < r.length → (r ++ backG W H L r).getD j 0 = r.getD j 0 := fun j hj => by
    rw [List.getD_eq_getElem?_getD, List.getD_eq_getElem?_getD, List.getElem?_append_left hj]
  have gb : ∀ j, (r ++ backG W H L r).getD (r.length + j) 0 = (backG W H L r).getD j 0 := fun j => by
    rw [List.getD_eq_getElem?_getD, List.getD_eq_getElem?_getD, List.getElem?_append_right (by omega), Nat.add_sub_cancel_left]
  refine route_yes (route_all hr).1 (by rw [List.length_append]; have := route_pos hr; omega) (fun i hi => ?_)
  rw [List.length_append, h2] at hi
  have hn := route_pos hr
  rcases Nat.lt_or_ge i r.length with hlt | hge
  · obtain ⟨q1, q2⟩ := route_at hr hlt
    rw [link_at (ga i hlt) q1, q2]
    refine decide_eq_true ?_
    cases i with
    | zero => rw [atR, atR, if_pos rfl, if_pos rfl, ga 0 hn]
    | succ i => rw [atR_succ, atR_succ, ga i (by omega)]
  · obtain ⟨j, rfl⟩ : ∃ j, i = r.length + j := ⟨i - r.length, by omega⟩
    obtain ⟨q1, q2⟩ := route_at h1 (j := j) (by omega)
    rw [link_at (gb j) q1, q2]
    refine decide_eq_true ?_
    rw [h4 j (by omega)]
    cases j with
    | zero =>
      have : r.length - 0 = r.length := by omega
      rw [this]
      obtain ⟨m, hm⟩ : ∃ m, r.length = m + 1 := ⟨r.length - 1, by omega⟩
      rw [Nat.add_zero, hm, atR_succ, atR_succ, ga m (by omega)]
    | succ j =>
      rw [show r.length + (j + 1) = (r.length + j) + 1 by omega, atR_succ, gb j, ← atR_succ, h4 (j + 1) (by omega)]
/-- Without broken channels every route can be turned back. -/
theorem back_free (h : routeG W H [] r = true) : backOk W H [] r = true := by
  refine backOk_yes h (fun j hj => ?_)
  have q1 := (route_at h (j := r.length - 1 - j) (by omega)).1
  simp only [hasChG, (back_has q1).1, inG]
  rfl

/-- A list grows by a channel that begins where it has led. -/
theorem links_push {c : Int} (h : linksTo W H L r r.length) (hc : hasChG W H L c = true) (hx : 0 < r.length → c / 4 = atR W H r r.length) :
    linksTo W H L (r ++ [c]) (r ++ [c]).length ∧ atR W H (r ++ [c]) (r ++ [c]).length = endC W H c := by
  have ga : ∀ j, j < r.length → (r ++ [c]).getD j 0 = r.getD j 0 := fun j hj => by
    rw [List.getD_eq_getElem?_getD, List.getD_eq_getElem?_getD, List.getElem?_append_left hj]
  have gc : (r ++ [c]).getD r.length 0 = c := by
    rw [List.getD_eq_getElem?_getD, List.getElem?_append_right (Nat.le_refl _), Nat.sub_self]; rfl
  have hl : (r ++ [c]).length = r.length + 1 := by simp
  refine ⟨?_, by rw [hl, atR_succ, gc]⟩
  rw [hl]
  refine links_succ (fun j hj => ?_) ?_
  · have := h j hj
    cases j with
    | zero => rw [linkG, ga 0 hj]; rw [linkG] at this; simpa using this
    | succ j => rw [linkG, ga _ hj, Nat.add_sub_cancel, ga j (by omega)]; rw [linkG, Nat.add_sub_cancel] at this; exact this
  · rw [link_at gc hc]
    refine decide_eq_true ?_
    rcases Nat.eq_zero_or_pos r.length with h0 | h0
    · rw [h0, atR, if_pos rfl]
      rw [h0] at gc
      rw [gc]
    · rw [hx h0]
      obtain ⟨m, hm⟩ : ∃ m, r.length = m + 1 := ⟨r.length - 1, by omega⟩
      rw [hm, atR_succ, atR_succ, ga m (by omega)]

variable {P : List Int}
/-- A walk of a table, channel by channel. -/
theorem walk_cases {z a : Int} {f : Nat} {l : List Int} (h : walkF W H L P z (f + 1) a = some l) :
    (l = [] ∧ a = z) ∨ ∃ c t, l = c :: t ∧ c = 4 * a + tabG (countG W H) P a z ∧ hasChG W H L c = true ∧ c / 4 = a ∧ c % 4 = tabG (countG W H) P a z ∧ walkF W H L P z f (endC W H c) = some t := by
  rw [walkF] at h
  split at h
  · split at h
    · rename_i e
      cases h
      exact .inl ⟨rfl, e⟩
    · cases h
  · split at h
    · rename_i h4 hs
      rw [Option.map_eq_some_iff] at h
      obtain ⟨t, ht, rfl⟩ := h
      obtain ⟨p0, p3, hc⟩ := steps_next hs
      have e1 : (4 * a + tabG (countG W H) P a z) / 4 = a := by omega
      have e2 : (4 * a + tabG (countG W H) P a z) % 4 = tabG (countG W H) P a z := by omega
      exact .inr ⟨_, t, rfl, rfl, hc, e1, e2, by rw [endC, e1, e2]; exact ht⟩
    · cases h
theorem walk_det {z : Int} : ∀ (f g : Nat) (a : Int) (l m : List Int), walkF W H L P z f a = some l → walkF W H L P z g a = some m → l = m
  | 0, _, _, _, _, h, _ => by simp [walkF] at h
  | _ + 1, 0, _, _, _, _, h => by simp [walkF] at h
  | f + 1, g + 1, a, l, m, h1, h2 => by
    rw [walkF] at h1 h2
    split at h1
    · rename_i h4
      rw [if_pos h4] at h2
      split at h1
      · rename_i e
        rw [if_pos e] at h2
        cases h1; cases h2; rfl
      · cases h1
    · rename_i h4
      rw [if_neg h4] at h2
      split at h1
      · rename_i hs
        rw [if_pos hs] at h2
        rw [Option.map_eq_some_iff] at h1 h2
        obtain ⟨t, ht, rfl⟩ := h1
        obtain ⟨u, hu, rfl⟩ := h2
        rw [walk_det f g _ t u ht hu]
      · cases h1
/-- What lies behind the first j channels of a walk is the walk from where they lead. -/
theorem walk_drop {z : Int} : ∀ (f : Nat) (a : Int) (l : List Int), walkF W H L P z f a = some l → ∀ j, j ≤ l.length →
    ∃ g, walkF W H L P z g (if j = 0 then a else endC W H (l.getD (j - 1) 0)) = some (l.drop j)
  | 0, _, _, h, _, _ => by simp [walkF] at h
  | f + 1, a, l, h, 0, _ => ⟨f + 1, by rw [if_pos rfl]; exact h⟩
  | f + 1, a, l, h, j + 1, hj => by
    rcases walk_cases h with ⟨rfl, _⟩ | ⟨c, t, rfl, _, _, _, _, ht⟩
    · simp at hj
    · obtain ⟨g, hg⟩ := walk_drop f _ t ht j (by simpa using hj)
      refine ⟨g, ?_⟩
      rw [if_neg (by omega), Nat.add_sub_cancel, List.drop_succ_cons]
      cases j with
      | zero => rw [if_pos rfl] at hg; exact hg
      | succ j => rw [if_neg (by omega), Nat.add_sub_cancel] at hg; rw [List.getD_cons_succ]; exact hg
theorem walk_links {z : Int} : ∀ (f : Nat) (a : Int) (l : List Int), walkF W H L P z f a = some l → linksTo W H L l l.length ∧ (0 < l.length → l.getD 0 0 / 4 = a ∧ l.getD 0 0 % 4 = tabG (countG W H) P a z ∧ atR W H l l.length = z) ∧ (l = [] → a = z)
  | 0, _, _, h => by simp [walkF] at h
  | f + 1, a, l, h => by
    rcases walk_cases h with ⟨rfl, e⟩ | ⟨c, t, rfl, hc, hh, h4, h5, ht⟩
    · exact ⟨links_zero, fun h => absurd h (by simp), fun _ => e⟩
    · obtain ⟨h1, h2, h3⟩ := walk_links f _ t ht
      refine ⟨fun j hj => ?_, fun _ => ⟨h4, h5, ?_⟩, fun e => by cases e⟩
      · cases j with
        | zero => exact link_first rfl hh
        | succ j =>
          have hj' : j < t.length := by simpa using hj
          have q := h1 j hj'
          have qh := link_has q
          rw [link_next (c := t.getD j 0) (x := endC W H ((c :: t).getD j 0)) (by rw [List.getD_cons_succ]) rfl qh]
          refine decide_eq_true ?_
          cases j with
          | zero => exact (h2 (by omega)).1
          | succ j =>
            rw [link_at rfl qh, atR_succ] at q
            rw [List.getD_cons_succ]
            exact of_decide_eq_true q
      · rw [List.length_cons, atR_succ]
        cases t with
        | nil => exact h3 rfl
        | cons d u =>
          have q := (h2 (by simp)).2.2
          rw [List.length_cons, atR_succ] at q
          rw [List.length_cons, List.getD_cons_succ]
          exact q
theorem walk_free {z a : Int} {f : Nat} {l : List Int} (h : walkF W H L P z f a = some l) (hm : meshG W H L = true) (h0 : 0 < l.length) : routeG W H L l = true ∧ freeG (nodesG W H L l) = true := by
  obtain ⟨h1, h2, _⟩ := walk_links f a l h
  have hr := route_yes hm h0 h1
  refine ⟨hr, ?_⟩
  have hlen := nodes_len hr
  rw [free_yes, hlen]
  · simp
  · intro i hi
    rw [hlen] at hi
    refine free_at (b := false) rfl (inG_no fun j hj => ?_)
    rw [List.length_take, hlen] at hj
    have hji : j < i := by omega
    rw [List.getD_eq_getElem?_getD, List.getElem?_take_of_lt hji, ← List.getD_eq_getElem?_getD, nodes_at hr (by omega), nodes_at hr (by omega)]
    intro e
    have hat : ∀ k, k ≤ l.length → (if k = 0 then a else endC W H (l.getD (k - 1) 0)) = atR W H l k := fun k hk => by
      unfold atR
      split
      · exact (h2 h0).1.symm
      · rfl
    obtain ⟨g1, w1⟩ := walk_drop f a l h j (by omega)
    obtain ⟨g2, w2⟩ := walk_drop f a l h i (by omega)
    rw [hat j (by omega), e] at w1
    rw [hat i (by omega)] at w2
    have := congrArg List.length (walk_det g1 g2 _ _ _ w1 w2)
    rw [List.length_drop, List.length_drop] at this
    omega
end
end Go.Proofs.YtcmlnokfjbglaaaDoor
end

section
namespace Go.Proofs.YtcmlnokfjbglaaaDoor
open Go.ChangeShapes Go.WideShapes Go.ChangeAt Go.RowKit
set_option linter.unusedVariables false

/-- The numbers below k that a set has, ascending. -/
def setL (f : Nat → Bool) (k : Nat) : List Int := ((List.range k).filter f).map fun j : Nat => (j : Int)
theorem setL_zero (f : Nat → Bool) : setL f 0 = [] := rfl
theorem setL_yes {f : Nat → Bool} {k : Nat} (h : f k = true) : setL f (k + 1) = setL f k ++ [(k : Int)] := by
  simp [setL, List.range_succ, List.filter_append, h]
theorem setL_no {f : Nat → Bool} {k : Nat} (h : f k = false) : setL f (k + 1) = setL f k := by
  simp [setL, List.range_succ, List.filter_append, h]
theorem setL_len (f : Nat → Bool) (k : Nat) : (setL f k).length ≤ k := by
  unfold setL
  rw [List.length_map]
  exact Nat.le_trans (List.length_filter_le _ _) (by simp)
theorem setL_congr {f g : Nat → Bool} {k : Nat} (h : ∀ x, x < k → f x = g x) : setL f k = setL g k := by
  unfold setL
  congr 1
  exact List.filter_congr fun x hx => h x (List.mem_range.1 hx)
theorem setL_mem {f : Nat → Bool} {k : Nat} {x : Int} : x ∈ setL f k ↔ ∃ j : Nat, j < k ∧ x = (j : Int) ∧ f j = true := by
  unfold setL
  simp only [List.mem_map, List.mem_filter, List.mem_range]
  exact ⟨fun ⟨j, ⟨h1, h2⟩, h3⟩ => ⟨j, h1, h3.symm, h2⟩, fun ⟨j, h1, h2, h3⟩ => ⟨j, ⟨h1, h3⟩, h2.symm⟩⟩
theorem setL_sorted (f : Nat → Bool) (k : Nat) : (setL f k).Pairwise (fun a b => a < b) := by
  induction k with
  | zero => exact List.Pairwise.nil
  | succ k ih =>
    cases h : f k with
    | false => rw [setL_no h]; exact ih
    | true =>
      rw [setL_yes h]
      refine List.pairwise_append.2 ⟨ih, List.pairwise_singleton _ _, fun a ha b hb => ?_⟩
      obtain ⟨j, hj, rfl, _⟩ := setL_mem.1 ha
      simp at hb
      omega

/-- A set with one more turn. -/
def withT (f : Nat → Bool) (p q : Int) (x : Nat) : Bool := f x || decide (p ≠ q ∧ 4 * p + q = (x : Int))
theorem withT_same {f : Nat → Bool} {p q : Int} (h : p = q) : withT f p q = f := by
  funext x; simp [withT, h]
/-- The turns from one port to the first k of some ports. -/
def rowT (p : Int) (T : List Int) (k : Nat) (x : Nat) : Bool := (List.range k).any fun j => decide (p ≠ T.getD j 0 ∧ 4 * p + T.getD j 0 = (x : Int))
/-- The turns from the first k of some ports to others. -/
def crossT (F T : List Int) (k : Nat) (x : Nat) : Bool := (List.range k).any fun i => rowT (F.getD i 0) T T.length x
def orT (f g : Nat → Bool) (x : Nat) : Bool := f x || g x
theorem orT_none (f : Nat → Bool) {g : Nat → Bool} (h : ∀ x, g x = false) : orT f g = f := by funext x; simp [orT, h]
theorem row_zero (p : Int) (T : List Int) (x : Nat) : rowT p T 0 x = false := rfl
theorem cross_zero (F T : List Int) (x : Nat) : crossT F T 0 x = false := rfl
theorem row_next (f : Nat → Bool) (p q : Int) (T : List Int) (k : Nat) (h : T.getD k 0 = q) : withT (orT f (rowT p T k)) p q = orT f (rowT p T (k + 1)) := by
  funext x
  simp only [withT, orT, rowT, List.range_succ, List.any_append, List.any_cons, List.any_nil, Bool.or_false, h, Bool.or_assoc]
theorem cross_next (f : Nat → Bool) (p : Int) (F T : List Int) (k : Nat) (h : F.getD k 0 = p) : orT (orT f (crossT F T k)) (rowT p T T.length) = orT f (crossT F T (k + 1)) := by
  funext x
  simp only [orT, crossT, List.range_succ, List.any_append, List.any_cons, List.any_nil, Bool.or_false, h, Bool.or_assoc]

/-- The turn that a way takes behind its channel j. -/
def hitT (R : List Int) (j : Nat) (x : Nat) : Bool := decide (R.getD j 0 % 4 ≠ R.getD (j + 1) 0 % 4 ∧ 4 * (R.getD j 0 % 4) + R.getD (j + 1) 0 % 4 = (x : Int))
def wayT (R : List Int) (k : Nat) (x : Nat) : Bool := (List.range k).any fun j => hitT R j x
theorem way_zero (R : List Int) (x : Nat) : wayT R 0 x = false := rfl
theorem way_next (f : Nat → Bool) (R : List Int) (k : Nat) (p q : Int) (hp : R.getD k 0 % 4 = p) (hq : R.getD (k + 1) 0 % 4 = q) : withT (orT f (wayT R k)) p q = orT f (wayT R (k + 1)) := by
  funext x
  simp only [withT, orT, wayT, hitT, List.range_succ, List.any_append, List.any_cons, List.any_nil, Bool.or_false, hp, hq, Bool.or_assoc]
variable {W H : Int} {L P : List Int}
/-- The way of the pair of nodes number i. -/
def pairW (W H : Int) (L P : List Int) (i : Nat) : List Int := walkOf W H L P ((i : Int) / countG W H) ((i : Int) % countG W H)
def allT (W H : Int) (L P : List Int) (k : Nat) (x : Nat) : Bool := (List.range k).any fun i => wayT (pairW W H L P i) ((pairW W H L P i).length - 1) x
theorem all_zero (x : Nat) : allT W H L P 0 x = false := rfl
theorem all_next {k : Nat} {R : List Int} (h : pairW W H L P k = R) : orT (allT W H L P k) (wayT R (R.length - 1)) = allT W H L P (k + 1) := by
  funext x
  simp only [orT, allT, List.range_succ, List.any_append, List.any_cons, List.any_nil, Bool.or_false, h]
def turnsG (W H : Int) (L P : List Int) : List Int := if tableG W H L P then setL (allT W H L P (sqG W H)) 16 else []
theorem turnsG_yes (h : tableG W H L P = true) : turnsG W H L P = setL (allT W H L P (sqG W H)) 16 := if_pos h
theorem turnsG_no (h : tableG W H L P = false) : turnsG W H L P = [] := if_neg (by simp [h])
theorem turnsG_len : (turnsG W H L P).length ≤ 16 := by
  unfold turnsG; split
  · exact setL_len _ _
  · simp

/-- The channels of a way are numbers below 64. -/
theorem walkF_range {z : Int} : ∀ (f : Nat) (a : Int) (l : List Int), walkF W H L P z f a = some l → ∀ c ∈ l, 0 ≤ c ∧ c < 64
  | 0, a, l, h => by simp [walkF] at h
  | f + 1, a, l, h => by
    have hcl := countG_le W H
    rcases walk_cases h with ⟨rfl, _⟩ | ⟨c, t, rfl, _, hc, _, _, ht⟩
    · simp
    · intro d hd
      rcases List.mem_cons.1 hd with rfl | hd
      · simp only [hasChG, leadsG, Bool.and_eq_true, decide_eq_true_eq] at hc
        omega
      · exact walkF_range f _ t ht d hd
theorem pairW_range {i j : Nat} (h : j < (pairW W H L P i).length) : 0 ≤ (pairW W H L P i).getD j 0 ∧ (pairW W H L P i).getD j 0 < 64 := by
  unfold pairW walkOf at h ⊢
  cases hw : walkF W H L P ((i : Int) % countG W H) ((countG W H).toNat + 1) ((i : Int) / countG W H) with
  | none => simp [hw] at h
  | some l =>
    simp only [hw, Option.getD_some] at h ⊢
    have he : l.getD j 0 = l[j] := by simp [List.getD, List.getElem?_eq_getElem h]
    rw [he]
    exact walkF_range _ _ _ hw _ (List.getElem_mem h)
theorem pairW_len (i : Nat) : (pairW W H L P i).length ≤ 16 := walkOf_len _ _

/-- The turns of a rule. -/
def ruleL (r : Int) : List Int := if r = 1 then [4, 6, 12, 14] else if r = 2 then [1, 3, 9, 11] else if r = 3 then [1, 9, 12, 13, 14] else if r = 4 then [1, 3, 4, 6, 9, 11, 12, 14] else []
theorem ruleL_len (r : Int) : (ruleL r).length ≤ 16 := by
  unfold ruleL
  (repeat' split) <;> simp
/-- The turns of a rule as the model marks them. -/
def ruleF (r : Int) (x : Nat) : Bool :=
  if r = 1 then decide (x / 4 % 2 ≠ x % 4 % 2) && decide (x / 4 % 2 = 1) else if r = 2 then decide (x / 4 % 2 ≠ x % 4 % 2) && !decide (x / 4 % 2 = 1)
  else if r = 3 then decide (x / 4 = 3) && decide (x % 4 ≠ 3) || !decide (x / 4 % 2 = 1) && decide (x % 4 = 1) else if r = 4 then decide (x / 4 % 2 ≠ x % 4 % 2) else false
theorem rule_set (r : Int) : setL (ruleF r) 16 = ruleL r := by
  by_cases h1 : r = 1
  · subst h1; decide
  by_cases h2 : r = 2
  · subst h2; decide
  by_cases h3 : r = 3
  · subst h3; decide
  by_cases h4 : r = 4
  · subst h4; decide
  have e : ∀ x, ruleF r x = false := fun x => by simp [ruleF, h1, h2, h3, h4]
  have e2 : ruleL r = [] := by simp [ruleL, h1, h2, h3, h4]
  rw [e2, setL, List.filter_eq_nil_iff.2 (fun x _ => by simp [e x])]
  rfl

/-- Is it a turn back? -/
def backT (x : Int) : Bool := decide (0 ≤ x ∧ x ≤ 15) && decide (x % 4 = oppG (x / 4))
/-- A turn's name. -/
def nameT (x : Int) : ByteArray := if decide (0 ≤ x ∧ x ≤ 15) && decide (x / 4 ≠ x % 4) then portB (x / 4) ++ ⟨#[45]⟩ ++ portB (x % 4) else ⟨#[]⟩
theorem portB_size (p : Int) : (portB p).size ≤ 5 := by
  unfold portB
  (repeat' split) <;> decide
def allowsG (W H : Int) (L P T : List Int) : Bool := tableG W H L P && (turnsG W H L P).all fun x => inG T x
end Go.Proofs.YtcmlnokfjbglaaaDoor
end
