/- What is proved here: the drawing functions of the given model (a cursor over the bytes of a draw) return numbers in their ranges, for every cursor whose bytes can be read; only the cursor's own block and new blocks are written; a number picked from a list is one of the list; only the cursor's own block and new blocks are written; the numbers that the grid functions return, as mathematics; nothing of the program; a drawn grid is a valid one; only new blocks are written; the numbers that the mesh functions return, as mathematics; nothing of the program; the numbers that the functions on routing tables return, as mathematics; nothing of the program; the standard tables, as mathematics: all of them are valid and minimal, and their longest walk is the diameter; nothing of the program; what the model's GridOk and NodeCount return, for all arguments; only new blocks are written; what the model's port of a standard table returns, for nodes that exist; only new blocks are written; two boxed arguments stay known behind a call, and the number of pairs of nodes is small; nothing of the program; what the model's standard table holds; only new blocks are written; small facts on a cursor where other blocks are written; nothing of the program; a drawn table is a standard table of a drawn valid grid; only new blocks are written; DrawTable returns a valid grid's mesh and one of its standard tables; only new blocks are written; the laws' size test answers whether a draw has more than a million bytes; nothing is written; small facts on a square of 16 rows of 16 numbers that is written pair by pair, on its greatest number, and on walks of a table; nothing of the program; what the program's grid functions return, for all arguments; only new blocks are written; What is stated here: a mesh as the cells of a block, and a mesh whose first broken channels are good; nothing of the program; how a walk loads and stores a whole array of 256 numbers that is known as a block; nothing of the program but its types; the column and the row that the program finds for a node that exists; only new blocks are written; what the program's NextNode and its end of a channel return, for all arguments (the channel: of 64 bits); only new blocks are written; the broken channels of a valid mesh are numbers of 64 bits; nothing of the program; what the program's MeshOk returns for numbers of 64 bits; only new blocks are written; what the program's table of ports holds for a mesh and a table of the right size, and what it is otherwise; only new blocks are written; small facts on a mesh and a table as blocks, and on a square that is laid into a new block; nothing of the program; what the library's search in a list of numbers returns; only new blocks are written; what the program's search in a list and its test of a channel of a mesh return for numbers of 64 bits; only new blocks are written; what the program's walk of a square of ports returns for two nodes; only new blocks are written; the lists that the functions on routes return, as mathematics; nothing of the program; a neighbor has the node as its neighbor at the opposite port, at the distance 1; as mathematics, nothing of the program; a route turned back leads back along the same nodes, and turned back twice it is the route again; a table's walk is a route that visits no node twice; as mathematics, nothing of the program. -/
import Derived.Test.YtcmlnokfjbglaaaMA
import Derived.Deep.RegionLaw
import Derived.Laws.Rows
import Derived.Laws.Tables
import Derived.Laws.ResultCell
section
namespace Go.Proofs.Ytcmlnokfjbglaaa
open Go.ChangeShapes Go.WideShapes Go.ChangeAt Go.RowKit
set_option linter.unusedVariables false

/-- Block g is a cursor over a row of bytes that lies in an older block. -/
def Cur (w : World) (g : Nat) : Prop :=
  ∃ (A : Option Addr) (n cap i : Nat) (h : Int), Blk w g 113 #[.slice A n cap, .int .i64 i, .int .i64 h] ∧ i ≤ n ∧ n ≤ 1048576 ∧ ByteRow w g A n
theorem Cur.lt {w : World} {g : Nat} (h : Cur w g) : g < w.heap.size := by obtain ⟨A, n, cap, i, h, hb, _⟩ := h; exact hb.lt
theorem Cur.grown {w w' : World} {g : Nat} {row : Option Nat} (h : Cur w g) (hg : w.grownBy w' row) (hr : ∀ k, row = some k → g < k) : Cur w' g := by
  have hlt := h.lt
  obtain ⟨A, n, cap, i, h, hb, hi, hn, hr'⟩ := h
  exact ⟨A, n, cap, i, h, hb.grown hg (fun e => by have := hr g e.symm; omega), hi, hn, hr'.keep fun p hp => World.cell?_of_block (hg.block p.block (by omega) (fun e => by have := hr _ e.symm; omega))⟩
theorem Cur.other {w w' : World} {g : Nat} {base : Nat} {e : TypeId} {size n : Nat} {v : Value} {xs : List Value} (h : Cur w g) (hg : w.grownBy w' v.ownBlock) (ho : w.ownsRow base e size v n xs) (hbase : g < base) : Cur w' g :=
  h.grown hg (fun k hk => by have := (ho.lt k hk).1; omega)

/-- An integer between lo and hi is returned; only the cursor and new blocks are written. -/
def DrawnI (lo hi : Int) (g : Nat) (w : World) (e : Ending) (w' : World) : Prop := ∃ n : Int, e = .returned (.int .i64 n) ∧ lo ≤ n ∧ n ≤ hi ∧ Cur w' g ∧ w.grownBy w' (some g)
def DrawnB (g : Nat) (w : World) (e : Ending) (w' : World) : Prop := ∃ b : Bool, e = .returned (.bool b) ∧ Cur w' g ∧ w.grownBy w' (some g)

theorem Cur.of {w w' : World} {g : Nat} {A : Option Addr} {n cap i' : Nat} {cs : Array Value} {h' : Int} (hb : Blk w g 113 cs) (hr : ByteRow w g A n) (hg : w.grownBy w' (some g))
    (hb' : Blk w' g 113 #[.slice A n cap, .int .i64 i', .int .i64 h']) (hi : i' ≤ n) (hn : n ≤ 1048576) : Cur w' g := by
  have hlt := hb.lt
  exact ⟨A, n, cap, i', h', hb', hi, hn, hr.keep fun p hp => World.cell?_of_block (hg.block p.block (by omega) (fun e => by cases e; omega))⟩

theorem l01Byte (g : Nat) (w : World) (hcur : Cur w g) :
    Calls Try.prog 105 #[.pointer (some ⟨g, 0, none⟩)] w (DrawnI 0 255 g w) := by
  obtain ⟨A, n, cap, i, h, hb, hi, hn, hr⟩ := hcur
  have c0 : w.cell? ⟨g, 0, none⟩ = some (.slice A n cap) := hb.cell 0
  have c1 : w.cell? ⟨g, 1, none⟩ = some (.int .i64 i) := hb.cell 1
  have c2 : w.cell? ⟨g, 2, none⟩ = some (.int .i64 h) := hb.cell 2
  have f1 := hb.frozen 1
  have f2 := hb.frozen 2
  have Hb : Hid (Blk w g 113 #[.slice A n cap, .int .i64 i, .int .i64 h]) := hb
  have Hr : Hid (ByteRow w g A n) := hr
  by_cases hlt : i < n
  · obtain ⟨b, off, rfl, hbg, hcell⟩ := hr (by omega)
    obtain ⟨v, hv0, hv1, cv⟩ := hcell i hlt
    have hne : ¬ g = b := by omega
    have hd : decide ((i : Int) < (n : Int)) = true := by simp; omega
    clear hb hr hcell
    go_enter Try.func105, Try.ntmps105
    go_wp2
    go_quiet (fail)
    go_wp2
    go_quiet (fail)
    go_wp2
    go_quiet (fail)
    go_wp2
    go_ret
    refine ⟨_, rfl, (band_u _ 255 (by omega)).1, (band_u _ 255 (by omega)).2, ?_, ?_⟩
    · refine Cur.of Hb.out Hr.out ?_ (i' := i + 1) (((Hb.out.set_ 2 _).drewN _).set_ 1 _) (by omega) hn
      repeat (first | exact gb_refl _ _ | refine gb_drewN ?_ _ | refine gb_setCell ?_ (.inl rfl) _)
    · repeat (first | exact gb_refl _ _ | refine gb_drewN ?_ _ | refine gb_setCell ?_ (.inl rfl) _)
  · have hd : decide ((i : Int) < (n : Int)) = false := by simp; omega
    clear hb hr
    go_enter Try.func105, Try.ntmps105
    go_wp2
    go_quiet (fail)
    go_wp2
    go_quiet (fail)
    go_wp2
    go_ret
    refine ⟨_, rfl, (band_u _ 255 (by omega)).1, (band_u _ 255 (by omega)).2, ?_, ?_⟩
    · refine Cur.of Hb.out Hr.out ?_ (i' := i) (((Hb.out.set_ 2 _).drewN _).drewN _) hi hn
      repeat (first | exact gb_refl _ _ | refine gb_drewN ?_ _ | refine gb_setCell ?_ (.inl rfl) _)
    · repeat (first | exact gb_refl _ _ | refine gb_drewN ?_ _ | refine gb_setCell ?_ (.inl rfl) _)

/-- A drawn number below n: 0 where n is not above 0. -/
def DrawnBelow (n : Int) (g : Nat) (w : World) (e : Ending) (w' : World) : Prop := ∃ r : Int, e = .returned (.int .i64 r) ∧ 0 ≤ r ∧ (0 < n → r < n) ∧ (n ≤ 0 → r = 0) ∧ Cur w' g ∧ w.grownBy w' (some g)

theorem l01Below (n : Int) (g : Nat) (w : World) (hcur : Cur w g) :
    Calls Try.prog 83 #[.pointer (some ⟨g, 0, none⟩), .int .i64 n] w (DrawnBelow n g w) := by
  by_cases h0 : n ≤ 0
  · go_enter Try.func83, Try.ntmps83
    go_wp2
    go_ret
    exact ⟨0, rfl, by omega, by omega, fun _ => rfl, hcur, gb_refl _ _⟩
  · by_cases h1 : n ≤ 256
    · go_enter Try.func83, Try.ntmps83
      go_wp2_with fail
      refine (l01Byte g _ hcur).mono ?_
      rintro e w1 ⟨r, rfl, hr0, hr1, hcur1, hg1⟩
      have hm0 : 0 ≤ r % n := Int.emod_nonneg _ (by omega)
      have hm1 : r % n < n := Int.emod_lt_of_pos _ (by omega)
      go_wp2_with fail
      go_ret
      exact ⟨r % n, rfl, hm0, fun _ => hm1, fun h => (by omega), hcur1, hg1⟩
    · go_enter Try.func83, Try.ntmps83
      go_wp2_with fail
      refine (l01Byte g _ hcur).mono ?_
      rintro e w1 ⟨r1, rfl, hr10, hr11, hcur1, hg1⟩
      go_wp2_with fail
      refine (l01Byte g _ hcur1).mono ?_
      rintro e w2 ⟨r2, rfl, hr20, hr21, hcur2, hg2⟩
      go_wp2_with fail
      refine (l01Byte g _ hcur2).mono ?_
      rintro e w3 ⟨r3, rfl, hr30, hr31, hcur3, hg3⟩
      go_wp2_with fail
      refine (l01Byte g _ hcur3).mono ?_
      rintro e w4 ⟨r4, rfl, hr40, hr41, hcur4, hg4⟩
      have hm0 : 0 ≤ (r1 * 16777216 + r2 * 65536 + r3 * 256 + r4) % n := Int.emod_nonneg _ (by omega)
      have hm1 : (r1 * 16777216 + r2 * 65536 + r3 * 256 + r4) % n < n := Int.emod_lt_of_pos _ (by omega)
      go_wp2_with fail
      go_ret
      exact ⟨_, rfl, hm0, fun _ => hm1, fun h => (by omega), hcur4, gb_trans hg1 (gb_trans hg2 (gb_trans hg3 hg4))⟩

/-- A new cursor over the bytes of a draw. -/
def NewCur (w : World) (e : Ending) (w' : World) : Prop := ∃ g : Nat, e = .returned (.pointer (some ⟨g, 0, none⟩)) ∧ w.heap.size ≤ g ∧ Cur w' g ∧ Below w.heap.size w w'

set_option maxRecDepth 100000 in
theorem l01New (A : Option Addr) (n cap : Nat) (w : World) (hr : ByteRow w w.heap.size A n) (hn : n ≤ 1048576) :
    Calls Try.prog 52 #[.slice A n cap] w (NewCur w) := by
  have Hr : Hid (ByteRow w w.heap.size A n) := hr
  go_enter Try.func52, Try.ntmps52
  go_wp2
  go_loop [3, 4] (fun h i => ∃ (k : Nat) (z : Int), k ≤ n ∧ i = .int .i64 k ∧ h = .int .i64 z) (fun _ i => n - (intOf i).toNat)
  case atStart => exact ⟨0, _, Nat.zero_le _, rfl, rfl⟩
  case round =>
    obtain ⟨k, z, hk, rfl, rfl⟩ := hrel
    by_cases hlt : k < n
    · obtain ⟨b, off, rfl, hbg, hcell⟩ := hr (by omega)
      obtain ⟨v, hv0, hv1, cv⟩ := hcell k hlt
      by_cases h4 : k < 4000
      · clear hcell hr
        go_wp2
        go_round
        case rel => exact ⟨k + 1, _, by omega, by go_num, rfl⟩
        case measure => simp [intOf]; omega
      · clear hcell hr
        go_wp2
        go_ret
        exact ⟨w.heap.size, rfl, Nat.le_refl _, ⟨_, n, cap, 0, z, Blk.new _ _ _, Nat.zero_le _, hn, Hr.out.keep fun p hp => World.cell?_of_block (Below.heap_alloc _ _ _ hp)⟩, (Below.refl _ _).alloc (Nat.le_refl _) _⟩
    · clear hr
      go_wp2
      go_ret
      exact ⟨w.heap.size, rfl, Nat.le_refl _, ⟨_, n, cap, 0, z, Blk.new _ _ _, Nat.zero_le _, hn, Hr.out.keep fun p hp => World.cell?_of_block (Below.heap_alloc _ _ _ hp)⟩, (Below.refl _ _).alloc (Nat.le_refl _) _⟩
end Go.Proofs.Ytcmlnokfjbglaaa
end

section
namespace Go.Proofs.Ytcmlnokfjbglaaa
open Go.ChangeShapes Go.WideShapes Go.ChangeAt Go.RowKit
set_option linter.unusedVariables false

/-- A 64-bit integer is returned for which P holds. -/
def DrawnP (P : Int → Prop) (g : Nat) (w : World) (e : Ending) (w' : World) : Prop := ∃ n : Int, e = .returned (.int .i64 n) ∧ P n ∧ Cur w' g ∧ w.grownBy w' (some g)
def IsI64 (n : Int) : Prop := (Lit.int .i64 n).wf = true

theorem l01PickInt (P : Int → Prop) (b m cap : Nat) (g : Nat) (w : World) (hcur : Cur w g) (hm : 0 < m) (hb : b ≠ g) (hbs : b < w.heap.size)
    (hL : ∀ k, k < m → ∃ x : Int, P x ∧ w.cell? ⟨b, k, none⟩ = some (.int .i64 x)) :
    Calls Try.prog 91 #[.pointer (some ⟨g, 0, none⟩), .slice (some ⟨b, 0, none⟩) m cap] w (DrawnP P g w) := by
  have HL := Lib.hid hL
  clear hL
  go_enter Try.func91, Try.ntmps91
  go_wp2_with fail
  refine (l01Below m g _ hcur).mono ?_
  rintro e w1 ⟨r, rfl, hr0, hr1, hr2, hcur1, hg1⟩
  obtain ⟨k, rfl⟩ : ∃ k : Nat, r = k := ⟨r.toNat, by omega⟩
  have hk : k < m := by omega
  obtain ⟨x, hx, hc⟩ := HL.out k hk
  have hc1 : w1.cell? ⟨b, k, none⟩ = some (.int .i64 x) := hg1.cell hc (fun e => hb (by cases e; rfl))
  clear hr2
  go_wp2_with fail
  go_ret
  exact ⟨x, rfl, hx, hcur1, hg1⟩

theorem pick_new (P : Int → Prop) (L : List Int) (T : TypeId) (cs : Array Value) (m cap : Nat) (g : Nat) (w : World) (hcur : Cur w g) (hcs : cs = (L.map fun x => Value.int .i64 x).toArray) (hm : m = L.length) (h0 : 0 < m) (hP : ∀ x ∈ L, P x) :
    Calls Try.prog 91 #[.pointer (some ⟨g, 0, none⟩), .slice (some ⟨w.heap.size, 0, none⟩) m cap] (w.alloc (.cells cs T)) (DrawnP P g w) := by
  have hlt := hcur.lt
  have hal : w.grownBy (w.alloc (.cells cs T)) none := gb_alloc (gb_refl _ _) _
  have hal2 : w.grownBy (w.alloc (.cells cs T)) (some g) := gb_alloc (gb_refl _ _) _
  refine (l01PickInt P w.heap.size m cap g _ (hcur.grown hal (fun k e => by cases e)) h0 (by omega) (by simp) ?_).mono ?_
  · intro k hk
    have hk' : k < L.length := by omega
    refine ⟨L[k], hP _ (List.getElem_mem hk'), ?_⟩
    rw [(Blk.new w T cs).cell k, hcs]
    simp [hk']
  · rintro e w' ⟨x, rfl, hx, hc, hg⟩
    exact ⟨x, rfl, hx, hc, gb_trans hal2 hg⟩

theorem pick_at (P : Int → Prop) (L : List Int) (T : TypeId) (cs : Array Value) (m cap b : Nat) (g : Nat) (w : World) (hb : b = w.heap.size) (hcur : Cur w g) (hcs : cs = (L.map fun x => Value.int .i64 x).toArray) (hm : m = L.length) (h0 : 0 < m) (hP : ∀ x ∈ L, P x) :
    Calls Try.prog 91 #[.pointer (some ⟨g, 0, none⟩), .slice (some ⟨b, 0, none⟩) m cap] (w.alloc (.cells cs T)) (DrawnP P g w) := by
  subst hb
  exact pick_new P L T cs m cap g w hcur hcs hm h0 hP

theorem i64_small {n : Int} (h0 : -1000 ≤ n) (h1 : n ≤ 1000000001) : IsI64 n := WalkArith.wf_i64 (by omega)
end Go.Proofs.Ytcmlnokfjbglaaa
end

section
namespace Go.Proofs.Ytcmlnokfjbglaaa
open Go.ChangeShapes Go.WideShapes Go.ChangeAt Go.RowKit
set_option linter.unusedVariables false

def okG (W H : Int) : Bool := decide (1 ≤ W ∧ W ≤ 4 ∧ 1 ≤ H ∧ H ≤ 4)
def countG (W H : Int) : Int := if okG W H then W * H else 0
def atG (W H x y : Int) : Int := if okG W H = true ∧ 0 ≤ x ∧ x < W ∧ 0 ≤ y ∧ y < H then y * W + x else -1
def hasG (W H n : Int) : Bool := decide (0 ≤ n ∧ n < countG W H)
def colG (W H n : Int) : Int := if hasG W H n then n % W else -1
def rowG (W H n : Int) : Int := if hasG W H n then n / W else -1
def absI (x : Int) : Int := if x < 0 then -x else x
def distG (W H a b : Int) : Int := if hasG W H a = true ∧ hasG W H b = true then absI (a % W - b % W) + absI (a / W - b / W) else -1
def diamG (W H : Int) : Int := if okG W H then W + H - 2 else -1

theorem okG_iff {W H : Int} : okG W H = true ↔ 1 ≤ W ∧ W ≤ 4 ∧ 1 ≤ H ∧ H ≤ 4 := by simp [okG]
theorem okG_cases {W H : Int} (h : okG W H = true) : (W = 1 ∨ W = 2 ∨ W = 3 ∨ W = 4) ∧ (H = 1 ∨ H = 2 ∨ H = 3 ∨ H = 4) := by
  rw [okG_iff] at h; omega
theorem countG_le (W H : Int) : 0 ≤ countG W H ∧ countG W H ≤ 16 := by
  unfold countG
  split
  · rename_i h
    rcases okG_cases h with ⟨h1, h2⟩
    rcases h1 with rfl | rfl | rfl | rfl <;> rcases h2 with rfl | rfl | rfl | rfl <;> decide
  · omega
theorem hasG_iff {W H n : Int} : hasG W H n = true ↔ 0 ≤ n ∧ n < countG W H := by simp [hasG]
theorem hasG_ok {W H n : Int} (h : hasG W H n = true) : okG W H = true ∧ 0 ≤ n ∧ n < W * H ∧ countG W H = W * H := by
  rw [hasG_iff] at h
  cases hok : okG W H with
  | true => have hc : countG W H = W * H := by simp [countG, hok]
            rw [hc] at h; exact ⟨rfl, h.1, h.2, hc⟩
  | false => have hc : countG W H = 0 := by simp [countG, hok]
             rw [hc] at h; omega

theorem hasG_le {W H n : Int} (h : hasG W H n = true) : 0 ≤ n ∧ n ≤ 15 := by
  rw [hasG_iff] at h; have := countG_le W H; omega
theorem row_wrap {W n : Int} (h0 : 0 ≤ n) (h1 : n ≤ 15) (hW : W = 1 ∨ W = 2 ∨ W = 3 ∨ W = 4) : wrap64 (n.tdiv W) = n / W := by
  rw [Int.tdiv_eq_ediv_of_nonneg h0]
  refine IntWalk.wrap64_in _ ?_
  rcases hW with rfl | rfl | rfl | rfl <;> omega
/-- Column and row of a node are in range, and give the node back. -/
theorem place_of {W H n : Int} (h : hasG W H n = true) : 0 ≤ n % W ∧ n % W < W ∧ 0 ≤ n / W ∧ n / W < H ∧ n / W * W + n % W = n := by
  obtain ⟨hok, h0, h1, _⟩ := hasG_ok h
  obtain ⟨hW, hH⟩ := okG_cases hok
  rcases hW with rfl | rfl | rfl | rfl <;> rcases hH with rfl | rfl | rfl | rfl <;> omega

theorem absI_nonneg (x : Int) : 0 ≤ absI x := by unfold absI; split <;> omega
theorem absI_neg (x : Int) : absI (-x) = absI x := by unfold absI; (repeat' split) <;> omega
theorem absI_swap (a b : Int) : absI (a - b) = absI (b - a) := by unfold absI; (repeat' split) <;> omega
theorem absI_tri (a b c : Int) : absI (a - c) ≤ absI (a - b) + absI (b - c) := by unfold absI; (repeat' split) <;> omega
theorem absI_lt {a b W : Int} (ha : 0 ≤ a) (ha' : a < W) (hb : 0 ≤ b) (hb' : b < W) : absI (a - b) ≤ W - 1 := by unfold absI; split <;> omega
theorem absI_zero {x : Int} : absI x = 0 ↔ x = 0 := by unfold absI; split <;> omega

theorem distG_ok {W H a b : Int} (ha : hasG W H a = true) (hb : hasG W H b = true) : distG W H a b = absI (a % W - b % W) + absI (a / W - b / W) := by simp [distG, ha, hb]
theorem distG_swap (W H a b : Int) : distG W H a b = distG W H b a := by
  unfold distG
  rw [absI_swap (a % W) (b % W), absI_swap (a / W) (b / W)]
  by_cases ha : hasG W H a = true <;> by_cases hb : hasG W H b = true <;> simp [ha, hb]
theorem distG_nonneg {W H a b : Int} (ha : hasG W H a = true) (hb : hasG W H b = true) : 0 ≤ distG W H a b := by
  rw [distG_ok ha hb]
  have := absI_nonneg (a % W - b % W); have := absI_nonneg (a / W - b / W); omega
theorem distG_zero {W H a b : Int} (ha : hasG W H a = true) (hb : hasG W H b = true) : distG W H a b = 0 ↔ a = b := by
  rw [distG_ok ha hb]
  have h1 := absI_nonneg (a % W - b % W); have h2 := absI_nonneg (a / W - b / W)
  constructor
  · intro h
    have e1 := absI_zero.1 (show absI (a % W - b % W) = 0 by omega)
    have e2 := absI_zero.1 (show absI (a / W - b / W) = 0 by omega)
    have pa := (place_of ha).2.2.2.2
    have pb := (place_of hb).2.2.2.2
    rw [← pa, ← pb, show a % W = b % W by omega, show a / W = b / W by omega]
  · rintro rfl
    simp [absI]
theorem distG_le {W H a b : Int} (ha : hasG W H a = true) (hb : hasG W H b = true) : distG W H a b ≤ diamG W H := by
  have hok := (hasG_ok ha).1
  rw [distG_ok ha hb]
  obtain ⟨a0, a1, a2, a3, _⟩ := place_of ha
  obtain ⟨b0, b1, b2, b3, _⟩ := place_of hb
  have h1 := absI_lt a0 a1 b0 b1
  have h2 := absI_lt a2 a3 b2 b3
  simp only [diamG, hok, if_true]
  omega
theorem distG_tri {W H a b c : Int} (ha : hasG W H a = true) (hb : hasG W H b = true) (hc : hasG W H c = true) : distG W H a c ≤ distG W H a b + distG W H b c := by
  rw [distG_ok ha hb, distG_ok ha hc, distG_ok hb hc]
  have h1 := absI_tri (a % W) (b % W) (c % W)
  have h2 := absI_tri (a / W) (b / W) (c / W)
  omega
theorem atG_place {W H n : Int} (h : hasG W H n = true) : atG W H (colG W H n) (rowG W H n) = n := by
  obtain ⟨h0, h1, h2, h3, h4⟩ := place_of h
  have hok := (hasG_ok h).1
  simp only [colG, rowG, h, if_true]
  unfold atG
  rw [if_pos ⟨hok, h0, h1, h2, h3⟩, h4]
/-- The greatest distance is that of opposite corners. -/
theorem diam_corner {W H : Int} (hok : okG W H = true) : distG W H 0 (W * H - 1) = diamG W H := by
  obtain ⟨hW, hH⟩ := okG_cases hok
  rcases hW with rfl | rfl | rfl | rfl <;> rcases hH with rfl | rfl | rfl | rfl <;> decide

end Go.Proofs.Ytcmlnokfjbglaaa
end

section
namespace Go.Proofs.Ytcmlnokfjbglaaa
open Go.ChangeShapes Go.WideShapes Go.ChangeAt Go.RowKit
set_option linter.unusedVariables false

/-- A grid with sides from 1 to 4 is returned; only the cursor and new blocks are written. -/
def DrawnGridC (g : Nat) (w : World) (e : Ending) (w' : World) : Prop := ∃ W H : Int, e = .returned (.agg #[.int .i64 W, .int .i64 H]) ∧ okG W H = true ∧ Cur w' g ∧ w.grownBy w' (some g)
def Side (n : Int) : Prop := 1 ≤ n ∧ n ≤ 4

theorem gb_set2 {a w : World} {row : Option Nat} {b : Nat} (h : a.grownBy w row) (hb : a.heap.size ≤ b) (x y : Value) : a.grownBy ((w.setCell ⟨b, 0, none⟩ x).setCell ⟨b, 1, none⟩ y) row :=
  gb_setCell (gb_setCell h (.inr hb) x) (.inr hb) y
theorem cur_set2 {w : World} {g b : Nat} (h : Cur w g) (hb : g < b) (x y : Value) : Cur ((w.setCell ⟨b, 0, none⟩ x).setCell ⟨b, 1, none⟩ y) g := by
  have hg : w.grownBy ((w.setCell ⟨b, 0, none⟩ x).setCell ⟨b, 1, none⟩ y) (some b) := gb_setCell (gb_setCell (gb_refl w (some b)) (.inl rfl) x) (.inl rfl) y
  exact h.grown hg (fun k e => by cases e; exact hb)

theorem l02Grid (g : Nat) (w : World) (hcur : Cur w g) :
    Calls Try.prog 58 #[.pointer (some ⟨g, 0, none⟩)] w (DrawnGridC g w) := by
  have hlt := hcur.lt
  have hc0 : Cur (w.alloc (.cells #[.int .i64 0, .int .i64 0] 27)) g := hcur.grown (gb_alloc (gb_refl _ none) _) (fun k e => by cases e)
  have HB := Lib.hid (Blk.new w 27 #[.int .i64 0, .int .i64 0])
  have HA := Lib.hid (show w.grownBy (w.alloc (.cells #[.int .i64 0, .int .i64 0] 27)) (some g) from gb_alloc (gb_refl _ _) _)
  clear hcur
  go_enter Try.func58, Try.ntmps58
  go_wp2_with fail
  refine (pick_at Side [1, 2, 2, 3, 3, 4] _ _ 6 6 _ g _ (by simp) hc0 rfl rfl (by omega) (by unfold Side; decide)).mono ?_
  rintro e w1 ⟨W, rfl, hW, hcur1, hg1⟩
  have hb1 := HB.out.grown hg1 (fun e => by cases e; omega)
  have HW := Lib.hid hW
  have HG1 := Lib.hid (gb_trans HA.out hg1)
  have HB1 := Lib.hid hb1
  clear hc0 hW hg1 hb1
  go_wp2_with fail
  refine (pick_at Side [1, 2, 2, 3, 3, 4] _ _ 6 6 _ g _ rfl hcur1 rfl rfl (by omega) (by unfold Side; decide)).mono ?_
  rintro e w2 ⟨H, rfl, hH, hcur2, hg2⟩
  have hb2 := HB1.out.grown hg2 (fun e => by cases e; omega)
  have HH := Lib.hid hH
  have HG2 := Lib.hid (gb_trans HG1.out hg2)
  have HB2 := Lib.hid hb2
  have HC2 := Lib.hid hcur2
  have c0 := hb2.cell 0
  have c1 := hb2.cell 1
  have f0 := hb2.frozen 0
  have f1 := hb2.frozen 1
  simp at c0 c1
  clear hcur1 hcur2 hg2 hb2
  go_wp2_with fail
  have d0 := (HB2.out.set_ 0 (.int .i64 W)).cell 1
  have d1 := ((HB2.out.set_ 0 (.int .i64 W)).set_ 1 (.int .i64 H)).cell 0
  have d2 := ((HB2.out.set_ 0 (.int .i64 W)).set_ 1 (.int .i64 H)).cell 1
  simp at d0 d1 d2
  refine bodyPost_ret (v := .agg #[.int .i64 W, .int .i64 H]) (by simp [results, Try.results58, go_sem, d1, d2]) rfl ⟨W, H, rfl, okG_iff.2 ⟨HW.out.1, HW.out.2, HH.out.1, HH.out.2⟩, ?_, ?_⟩
  · exact cur_set2 HC2.out hlt _ _
  · exact gb_set2 HG2.out (Nat.le_refl _) _ _
end Go.Proofs.Ytcmlnokfjbglaaa
end

section
namespace Go.Proofs.Ytcmlnokfjbglaaa
open Go.ChangeShapes Go.WideShapes Go.ChangeAt Go.RowKit
set_option linter.unusedVariables false

def nextG (W H n p : Int) : Int :=
  if hasG W H n then
    if p = 0 then atG W H (n % W) (n / W - 1)
    else if p = 1 then atG W H (n % W + 1) (n / W)
    else if p = 2 then atG W H (n % W) (n / W + 1)
    else if p = 3 then atG W H (n % W - 1) (n / W)
    else if p = 4 then n else -1
  else -1
def oppG (p : Int) : Int := if p = 0 then 2 else if p = 1 then 3 else if p = 2 then 0 else if p = 3 then 1 else if p = 4 then 4 else -1
def leadsG (W H c : Int) : Bool := decide (0 ≤ c ∧ c < 4 * countG W H ∧ 0 ≤ nextG W H (c / 4) (c % 4))
/-- Element i of the broken channels leads somewhere and is greater than the one before. -/
def goodAt (W H : Int) (L : List Int) (i : Nat) : Bool := leadsG W H (L.getD i 0) && (decide (i = 0) || decide (L.getD (i - 1) 0 < L.getD i 0))
def meshG (W H : Int) (L : List Int) : Bool := okG W H && (List.range L.length).all (goodAt W H L)
def inG (L : List Int) (c : Int) : Bool := L.contains c
def hasChG (W H : Int) (L : List Int) (c : Int) : Bool := leadsG W H c && !inG L c
def hasChannelG (W H : Int) (L : List Int) (c : Int) : Bool := meshG W H L && hasChG W H L c
/-- The channels below k. -/
def chansTo (W H : Int) (L : List Int) (k : Nat) : List Int := ((List.range k).map fun c : Nat => (c : Int)).filter (hasChG W H L)
def chansG (W H : Int) (L : List Int) : List Int := if meshG W H L then chansTo W H L (4 * countG W H).toNat else []
def portB (p : Int) : ByteArray := if p = 0 then ⟨#[110, 111, 114, 116, 104]⟩ else if p = 1 then ⟨#[101, 97, 115, 116]⟩ else if p = 2 then ⟨#[115, 111, 117, 116, 104]⟩ else if p = 3 then ⟨#[119, 101, 115, 116]⟩ else if p = 4 then ⟨#[108, 111, 99, 97, 108]⟩ else ⟨#[]⟩

theorem atG_le (W H x y : Int) : -1 ≤ atG W H x y ∧ atG W H x y ≤ 15 := by
  unfold atG
  split
  · rename_i h
    obtain ⟨hok, h0, h1, h2, h3⟩ := h
    obtain ⟨hW, hH⟩ := okG_cases hok
    rcases hW with rfl | rfl | rfl | rfl <;> rcases hH with rfl | rfl | rfl | rfl <;> omega
  · omega
theorem nextG_le (W H n p : Int) : -1 ≤ nextG W H n p ∧ nextG W H n p ≤ 15 := by
  unfold nextG
  split
  · rename_i h
    have := hasG_le h
    repeat' split
    all_goals first | exact atG_le _ _ _ _ | omega
  · omega
theorem nextG_has {W H n p : Int} (h : ¬ 0 ≤ p ∨ ¬ p ≤ 4) : nextG W H n p = -1 := by
  unfold nextG
  split
  · rw [if_neg (by omega), if_neg (by omega), if_neg (by omega), if_neg (by omega), if_neg (by omega)]
  · rfl

theorem chansTo_zero (W H : Int) (L : List Int) : chansTo W H L 0 = [] := rfl
theorem chansTo_yes {W H : Int} {L : List Int} {k : Nat} (h : hasChG W H L (k : Int) = true) : chansTo W H L (k + 1) = chansTo W H L k ++ [(k : Int)] := by
  unfold chansTo
  rw [List.range_succ, List.map_append, List.filter_append]
  simp [h]
theorem chansTo_no {W H : Int} {L : List Int} {k : Nat} (h : hasChG W H L (k : Int) = false) : chansTo W H L (k + 1) = chansTo W H L k := by
  unfold chansTo
  rw [List.range_succ, List.map_append, List.filter_append]
  simp [h]
theorem chansTo_le (W H : Int) (L : List Int) (k : Nat) : (chansTo W H L k).length ≤ k := by
  unfold chansTo
  refine Nat.le_trans (List.length_filter_le _ _) ?_
  simp

theorem chansG_le (W H : Int) (L : List Int) : (chansG W H L).length ≤ 64 := by
  unfold chansG
  split
  · have h1 := chansTo_le W H L (4 * countG W H).toNat
    have h2 := countG_le W H
    omega
  · simp
/-- The broken channels up to i are good; a bad one makes the mesh not valid. -/
def goodTo (W H : Int) (L : List Int) (i : Nat) : Prop := ∀ j, j < i → goodAt W H L j = true
theorem goodTo_zero (W H : Int) (L : List Int) : goodTo W H L 0 := fun j h => by omega
theorem goodTo_succ {W H : Int} {L : List Int} {i : Nat} (h : goodTo W H L i) (hi : goodAt W H L i = true) : goodTo W H L (i + 1) := fun j hj => by
  rcases Nat.lt_succ_iff_lt_or_eq.1 hj with h1 | rfl
  · exact h j h1
  · exact hi
theorem meshG_yes {W H : Int} {L : List Int} (hok : okG W H = true) (h : goodTo W H L L.length) : meshG W H L = true := by
  simp only [meshG, hok, Bool.true_and, List.all_eq_true]
  intro i hi
  exact h i (List.mem_range.1 hi)
theorem meshG_no {W H : Int} {L : List Int} {i : Nat} (hi : i < L.length) (h : goodAt W H L i = false) : meshG W H L = false := by
  rw [meshG]
  cases hok : okG W H with
  | false => rfl
  | true =>
    rw [Bool.true_and, List.all_eq_false]
    exact ⟨i, List.mem_range.2 hi, by rw [h]; decide⟩
theorem meshG_bad {W H : Int} {L : List Int} (h : okG W H = false) : meshG W H L = false := by simp [meshG, h]
theorem meshG_ok {W H : Int} {L : List Int} (h : meshG W H L = true) : okG W H = true ∧ goodTo W H L L.length := by
  simp only [meshG, Bool.and_eq_true, List.all_eq_true] at h
  exact ⟨h.1, fun j hj => h.2 j (List.mem_range.2 hj)⟩
theorem inG_no {L : List Int} {c : Int} (h : ∀ j, j < L.length → L.getD j 0 ≠ c) : inG L c = false := by
  unfold inG
  rw [List.contains_eq_any_beq, List.any_eq_false]
  intro x hx
  obtain ⟨j, hj, rfl⟩ := List.getElem_of_mem hx
  have := h j hj
  rw [List.getD_eq_getElem?_getD, List.getElem?_eq_getElem hj] at this
  simp only [Option.getD_some] at this
  simpa using fun e => this e.symm
theorem inG_yes {L : List Int} {c : Int} {j : Nat} (hj : j < L.length) (h : L.getD j 0 = c) : inG L c = true := by
  unfold inG
  rw [List.getD_eq_getElem?_getD, List.getElem?_eq_getElem hj] at h
  simp only [Option.getD_some] at h
  rw [List.contains_iff_mem, ← h]
  exact List.getElem_mem hj
theorem goodAt_lead {W H : Int} {L : List Int} {i : Nat} {x : Int} (hx : L.getD i 0 = x) (h : leadsG W H x = false) : goodAt W H L i = false := by simp only [goodAt, hx, h, Bool.false_and]
theorem goodAt_first {W H : Int} {L : List Int} {x : Int} (hx : L.getD 0 0 = x) (h : leadsG W H x = true) : goodAt W H L 0 = true := by
  simp only [goodAt, hx, h, decide_true, Bool.true_or, Bool.and_self]
theorem goodAt_next {W H : Int} {L : List Int} {j : Nat} {x y : Int} (hx : L.getD (j + 1) 0 = x) (hy : L.getD j 0 = y) (h : leadsG W H x = true) : goodAt W H L (j + 1) = decide (y < x) := by
  simp only [goodAt, Nat.add_sub_cancel, hx, hy, h, Bool.true_and]
  simp
end Go.Proofs.Ytcmlnokfjbglaaa
end

section
namespace Go.Proofs.Ytcmlnokfjbglaaa
open Go.ChangeShapes Go.WideShapes Go.ChangeAt Go.RowKit
set_option linter.unusedVariables false

theorem next_has {W H n p : Int} (h : 0 ≤ nextG W H n p) : hasG W H (nextG W H n p) = true := by
  have hat : ∀ x y, 0 ≤ atG W H x y → hasG W H (atG W H x y) = true := fun x y h => by
    unfold atG at h ⊢
    split at h
    · rename_i hc
      obtain ⟨hok, h0, h1, h2, h3⟩ := hc
      rw [if_pos ⟨hok, h0, h1, h2, h3⟩, hasG_iff]
      have hk : countG W H = W * H := by simp [countG, hok]
      obtain ⟨hW, hH⟩ := okG_cases hok
      rw [hk]
      rcases hW with rfl | rfl | rfl | rfl <;> rcases hH with rfl | rfl | rfl | rfl <;> omega
    · omega
  unfold nextG at h ⊢
  split at h
  · rename_i hh
    rw [if_pos hh]
    repeat' split at h
    all_goals first | omega | (simp [*] at *; done) | skip
  · omega
/-- The entry of a table of k nodes. -/
def tabG (k : Int) (P : List Int) (node to : Int) : Int := P.getD (node * k + to).toNat 0
def sizedG (W H : Int) (L P : List Int) : Bool := meshG W H L && decide ((P.length : Int) = countG W H * countG W H)
def askG (W H : Int) (L P : List Int) (node to : Int) : Bool := sizedG W H L P && hasG W H node && hasG W H to
def portAtG (W H : Int) (L P : List Int) (node to : Int) : Int :=
  if askG W H L P node to = true ∧ 0 ≤ tabG (countG W H) P node to ∧ tabG (countG W H) P node to ≤ 4 then tabG (countG W H) P node to else -1
/-- One step of a walk: the port leads through a channel that exists. -/
def stepsG (W H : Int) (L : List Int) (at' p : Int) : Bool := decide (0 ≤ p ∧ p ≤ 3) && hasChG W H L (4 * at' + p)
def walkF (W H : Int) (L P : List Int) (to : Int) : Nat → Int → Option (List Int)
  | 0, _ => none
  | f + 1, a =>
    if tabG (countG W H) P a to = 4 then (if a = to then some [] else none)
    else if stepsG W H L a (tabG (countG W H) P a to) then
      (walkF W H L P to f (nextG W H a (tabG (countG W H) P a to))).map ((4 * a + tabG (countG W H) P a to) :: ·)
    else none
def walkOf (W H : Int) (L P : List Int) (a b : Int) : List Int := (walkF W H L P b ((countG W H).toNat + 1) a).getD []
def walkG (W H : Int) (L P : List Int) (a b : Int) : List Int := if askG W H L P a b = true ∧ a ≠ b then walkOf W H L P a b else []
/-- Entry i of the square of nodes is in order. -/
def entryG (W H : Int) (L P : List Int) (a b : Int) : Bool :=
  if a = b then decide (tabG (countG W H) P a a = 4) else !(walkOf W H L P a b).isEmpty
def tableG (W H : Int) (L P : List Int) : Bool :=
  sizedG W H L P && (List.range (countG W H).toNat).all fun a => (List.range (countG W H).toNat).all fun b => entryG W H L P (a : Int) (b : Int)
/-- The number of channels of the walk of pair i. -/
def lenAt (W H : Int) (L P : List Int) (i : Nat) : Nat := (walkOf W H L P ((i : Int) / countG W H) ((i : Int) % countG W H)).length
def mostTo (W H : Int) (L P : List Int) : Nat → Nat
  | 0 => 0
  | k + 1 => max (mostTo W H L P k) (lenAt W H L P k)
def sqG (W H : Int) : Nat := (countG W H).toNat * (countG W H).toNat
def longG (W H : Int) (L P : List Int) : Int := if tableG W H L P then (mostTo W H L P (sqG W H) : Int) else -1
def minAt (W H : Int) (L P : List Int) (i : Nat) : Bool := decide ((lenAt W H L P i : Int) = distG W H ((i : Int) / countG W H) ((i : Int) % countG W H))
def minimalG (W H : Int) (L P : List Int) : Bool := tableG W H L P && (List.range (sqG W H)).all (minAt W H L P)

section
variable {W H : Int} {L P : List Int}
theorem sizedG_mesh (h : sizedG W H L P = true) : meshG W H L = true ∧ (P.length : Int) = countG W H * countG W H := by
  simpa [sizedG] using h
theorem askG_all {a b : Int} (h : askG W H L P a b = true) : sizedG W H L P = true ∧ hasG W H a = true ∧ hasG W H b = true := by
  simp only [askG, Bool.and_eq_true] at h; exact ⟨h.1.1, h.1.2, h.2⟩
/-- The place of an entry. -/
theorem tab_at {k a b : Int} {n : Nat} (h : (n : Int) = k * k) (ha0 : 0 ≤ a) (ha1 : a < k) (hb0 : 0 ≤ b) (hb1 : b < k) : 0 ≤ a * k + b ∧ a * k + b < n := by
  have h1 : 0 ≤ a * k := Int.mul_nonneg ha0 (by omega)
  have h2 : a * k ≤ (k - 1) * k := Int.mul_le_mul_of_nonneg_right (by omega) (by omega)
  have h3 : (k - 1) * k = k * k - k := by rw [Int.sub_mul, Int.one_mul]
  omega

theorem walkF_end {to a : Int} {f : Nat} (h : tabG (countG W H) P a to = 4) (he : a = to) : walkF W H L P to (f + 1) a = some [] := by subst he; simp [walkF, h]
theorem walkF_lost {to a : Int} {f : Nat} (h : tabG (countG W H) P a to = 4) (he : a ≠ to) : walkF W H L P to (f + 1) a = none := by simp [walkF, h, he]
theorem walkF_bad {to a p : Int} {f : Nat} (h : tabG (countG W H) P a to = p) (h4 : p ≠ 4) (hs : stepsG W H L a p = false) : walkF W H L P to (f + 1) a = none := by
  subst h; simp [walkF, h4, hs]
theorem walkF_go {to a p : Int} {f : Nat} (h : tabG (countG W H) P a to = p) (h4 : p ≠ 4) (hs : stepsG W H L a p = true) : walkF W H L P to (f + 1) a = (walkF W H L P to f (nextG W H a p)).map ((4 * a + p) :: ·) := by
  subst h; simp [walkF, h4, hs]
/-- A walk of which the first channels are known. -/
def restG (W H : Int) (L P : List Int) (to : Int) (acc : List Int) (f : Nat) (a : Int) : List Int := ((walkF W H L P to f a).map (acc ++ ·)).getD []
theorem rest_start (a b : Int) : restG W H L P b [] ((countG W H).toNat + 1) a = walkOf W H L P a b := by
  unfold restG walkOf
  cases walkF W H L P b ((countG W H).toNat + 1) a <;> simp
theorem rest_zero (to a : Int) (acc : List Int) : restG W H L P to acc 0 a = [] := rfl
theorem rest_end {to a : Int} {f : Nat} {acc : List Int} (h : tabG (countG W H) P a to = 4) (he : a = to) : restG W H L P to acc (f + 1) a = acc := by simp [restG, walkF_end h he]
theorem rest_lost {to a : Int} {f : Nat} {acc : List Int} (h : tabG (countG W H) P a to = 4) (he : a ≠ to) : restG W H L P to acc (f + 1) a = [] := by simp [restG, walkF_lost h he]
theorem rest_bad {to a p : Int} {f : Nat} {acc : List Int} (h : tabG (countG W H) P a to = p) (h4 : p ≠ 4) (hs : stepsG W H L a p = false) : restG W H L P to acc (f + 1) a = [] := by simp [restG, walkF_bad h h4 hs]
theorem rest_go {to a p : Int} {f : Nat} {acc : List Int} (h : tabG (countG W H) P a to = p) (h4 : p ≠ 4) (hs : stepsG W H L a p = true) : restG W H L P to acc (f + 1) a = restG W H L P to (acc ++ [4 * a + p]) f (nextG W H a p) := by
  simp only [restG, walkF_go h h4 hs, Option.map_map]
  congr 2
  funext x
  simp
theorem steps_next {a p : Int} (h : stepsG W H L a p = true) : 0 ≤ p ∧ p ≤ 3 ∧ hasChG W H L (4 * a + p) = true := by
  simp only [stepsG, Bool.and_eq_true, decide_eq_true_eq] at h; exact ⟨h.1.1, h.1.2, h.2⟩
theorem step_has {a p : Int} (h : stepsG W H L a p = true) : hasG W H (nextG W H a p) = true := by
  obtain ⟨h0, h3, hc⟩ := steps_next h
  simp only [hasChG, Bool.and_eq_true] at hc
  have h1 : 0 ≤ 4 * a + p ∧ 4 * a + p < 4 * countG W H ∧ 0 ≤ nextG W H ((4 * a + p) / 4) ((4 * a + p) % 4) := by simpa [leadsG] using hc.1
  have e1 : (4 * a + p) / 4 = a := by omega
  have e2 : (4 * a + p) % 4 = p := by omega
  rw [e1, e2] at h1
  exact next_has h1.2.2
theorem walkF_len {to : Int} : ∀ (f : Nat) (a : Int) (l : List Int), walkF W H L P to f a = some l → l.length < f
  | 0, _, _, h => by simp [walkF] at h
  | f + 1, a, l, h => by
    rw [walkF] at h
    split at h
    · split at h
      · cases h; simp
      · cases h
    · split at h
      · rw [Option.map_eq_some_iff] at h
        obtain ⟨m, hm, rfl⟩ := h
        have := walkF_len f _ m hm
        simp; omega
      · cases h
theorem walkOf_len (a b : Int) : (walkOf W H L P a b).length ≤ 16 := by
  unfold walkOf
  have hc := countG_le W H
  cases h : walkF W H L P b ((countG W H).toNat + 1) a with
  | none => simp
  | some l => have := walkF_len _ _ _ h; simp; omega

/-- The pairs of nodes up to i are in order. -/
def pairsTo (W H : Int) (L P : List Int) (a b : Nat) : Prop :=
  (∀ x y : Nat, x < a → (y : Int) < countG W H → entryG W H L P x y = true) ∧ ∀ y : Nat, y < b → entryG W H L P a y = true
theorem pairs_zero : pairsTo W H L P 0 0 := ⟨fun _ _ h => by omega, fun _ h => by omega⟩
theorem pairs_next {a b : Nat} (h : pairsTo W H L P a b) (he : entryG W H L P a b = true) : pairsTo W H L P a (b + 1) :=
  ⟨h.1, fun y hy => by
    rcases Nat.lt_succ_iff_lt_or_eq.1 hy with h1 | rfl
    · exact h.2 y h1
    · exact he⟩
theorem pairs_row {a b : Nat} (h : pairsTo W H L P a b) (hb : (b : Int) = countG W H) : pairsTo W H L P (a + 1) 0 :=
  ⟨fun x y hx hy => by
    rcases Nat.lt_succ_iff_lt_or_eq.1 hx with h1 | rfl
    · exact h.1 x y h1 hy
    · exact h.2 y (by omega), fun _ h => by omega⟩
theorem tableG_yes {a b : Nat} (hs : sizedG W H L P = true) (h : pairsTo W H L P a b) (ha : (a : Int) = countG W H) : tableG W H L P = true := by
  simp only [tableG, hs, Bool.true_and, List.all_eq_true, List.mem_range]
  intro x hx y hy
  exact h.1 x y (by omega) (by omega)
theorem tableG_no {a b : Nat} (ha : (a : Int) < countG W H) (hb : (b : Int) < countG W H) (h : entryG W H L P a b = false) : tableG W H L P = false := by
  cases ht : tableG W H L P with
  | false => rfl
  | true =>
    simp only [tableG, Bool.and_eq_true, List.all_eq_true, List.mem_range] at ht
    have := ht.2 a (by omega) b (by omega)
    rw [h] at this
    cases this
theorem tableG_unsized (h : sizedG W H L P = false) : tableG W H L P = false := by simp [tableG, h]
theorem tableG_sized (h : tableG W H L P = true) : sizedG W H L P = true := by simp only [tableG, Bool.and_eq_true] at h; exact h.1
theorem tableG_entry {a b : Int} (h : tableG W H L P = true) (ha : hasG W H a = true) (hb : hasG W H b = true) : entryG W H L P a b = true := by
  simp only [tableG, Bool.and_eq_true, List.all_eq_true, List.mem_range] at h
  have h1 := hasG_iff.1 ha
  have h2 := hasG_iff.1 hb
  have := h.2 a.toNat (by omega) b.toNat (by omega)
  rwa [Int.toNat_of_nonneg h1.1, Int.toNat_of_nonneg h2.1] at this
theorem entry_same {a : Int} : entryG W H L P a a = decide (tabG (countG W H) P a a = 4) := by simp [entryG]
theorem entry_two {a b : Int} (h : a ≠ b) : entryG W H L P a b = !(walkOf W H L P a b).isEmpty := by simp [entryG, h]

theorem mostTo_le {i k : Nat} (h : i < k) : lenAt W H L P i ≤ mostTo W H L P k := by
  induction k with
  | zero => omega
  | succ k ih =>
    rw [mostTo]
    rcases Nat.lt_succ_iff_lt_or_eq.1 h with h1 | rfl
    · exact Nat.le_trans (ih h1) (Nat.le_max_left _ _)
    · exact Nat.le_max_right _ _
theorem mostTo_16 (k : Nat) : mostTo W H L P k ≤ 16 := by
  induction k with
  | zero => simp [mostTo]
  | succ k ih => rw [mostTo]; have := walkOf_len (W := W) (H := H) (L := L) (P := P) ((k : Int) / countG W H) ((k : Int) % countG W H); unfold lenAt; omega
/-- Pair i of the square is two nodes. -/
theorem pair_at {i : Nat} (h : i < sqG W H) : hasG W H ((i : Int) / countG W H) = true ∧ hasG W H ((i : Int) % countG W H) = true := by
  have hc := countG_le W H
  unfold sqG at h
  have hk : 0 < countG W H := by
    rcases Int.lt_or_le 0 (countG W H) with h1 | h1
    · exact h1
    · have : (countG W H).toNat = 0 := by omega
      rw [this] at h; omega
  have e : (i : Int) < countG W H * countG W H := by
    have : ((countG W H).toNat : Int) = countG W H := Int.toNat_of_nonneg hc.1
    rw [← this]; exact_mod_cast h
  exact ⟨hasG_iff.2 ⟨Int.ediv_nonneg (by omega) hc.1, Int.ediv_lt_of_lt_mul hk e⟩, hasG_iff.2 ⟨Int.emod_nonneg _ (by omega), Int.emod_lt_of_pos _ hk⟩⟩
theorem sq_int (W H : Int) : (sqG W H : Int) = countG W H * countG W H := by
  have := countG_le W H
  unfold sqG
  rw [Int.natCast_mul, Int.toNat_of_nonneg this.1]
theorem sq_le (W H : Int) : sqG W H ≤ 256 := by
  have h := countG_le W H
  have : (countG W H).toNat ≤ 16 := by omega
  exact Nat.mul_le_mul this this
theorem walk_le {a b : Int} (ha : hasG W H a = true) (hb : hasG W H b = true) : (walkOf W H L P a b).length ≤ mostTo W H L P (sqG W H) := by
  have h1 := hasG_iff.1 ha
  have h2 := hasG_iff.1 hb
  have h3 := tab_at (k := countG W H) (n := sqG W H) (sq_int W H) h1.1 h1.2 h2.1 h2.2
  have e1 : (((a * countG W H + b).toNat : Nat) : Int) = a * countG W H + b := Int.toNat_of_nonneg h3.1
  have e2 : (a * countG W H + b) / countG W H = a := by
    rw [Int.add_comm, Int.add_mul_ediv_right _ _ (by omega), Int.ediv_eq_zero_of_lt h2.1 h2.2]; omega
  have e3 : (a * countG W H + b) % countG W H = b := by
    rw [Int.add_comm, Int.add_mul_emod_self_right]; exact Int.emod_eq_of_lt h2.1 h2.2
  have := mostTo_le (W := W) (H := H) (L := L) (P := P) (i := (a * countG W H + b).toNat) (k := sqG W H) (by omega)
  unfold lenAt at this
  rwa [e1, e2, e3] at this
/-- The first k pairs are minimal. -/
def minTo (W H : Int) (L P : List Int) (k : Nat) : Prop := ∀ i, i < k → minAt W H L P i = true
theorem minTo_zero : minTo W H L P 0 := fun _ h => by omega
theorem minTo_succ {k : Nat} (h : minTo W H L P k) (hk : minAt W H L P k = true) : minTo W H L P (k + 1) := fun i hi => by
  rcases Nat.lt_succ_iff_lt_or_eq.1 hi with h1 | rfl
  · exact h i h1
  · exact hk
theorem minimalG_yes (ht : tableG W H L P = true) (h : minTo W H L P (sqG W H)) : minimalG W H L P = true := by
  simp only [minimalG, ht, Bool.true_and, List.all_eq_true, List.mem_range]; exact h
theorem minimalG_no {i : Nat} (hi : i < sqG W H) (h : minAt W H L P i = false) : minimalG W H L P = false := by
  cases hm : minimalG W H L P with
  | false => rfl
  | true =>
    simp only [minimalG, Bool.and_eq_true, List.all_eq_true, List.mem_range] at hm
    have := hm.2 i hi
    rw [h] at this
    cases this
theorem minimalG_bad (h : tableG W H L P = false) : minimalG W H L P = false := by simp [minimalG, h]
end
end Go.Proofs.Ytcmlnokfjbglaaa
end

section
namespace Go.Proofs.Ytcmlnokfjbglaaa
open Go.ChangeShapes Go.WideShapes Go.ChangeAt Go.RowKit
set_option linter.unusedVariables false

def colPort (x u : Int) : Int := if u < x then 3 else 1
def rowPort (y v : Int) : Int := if v < y then 0 else 2
def mixRule (r b : Int) : Int := if r = 4 then 1 + b % 2 else r
/-- Does the rule take the column first? -/
def firstG (r x y u v : Int) : Bool := if r = 2 then decide (y = v) else if r = 3 then decide (u < x) || decide (y = v) else decide (x ≠ u)
def stdPort (W r a b : Int) : Int :=
  if a = b then 4 else if firstG (mixRule r b) (a % W) (a / W) (b % W) (b / W) then colPort (a % W) (b % W) else rowPort (a / W) (b / W)
def stdTo (W H r : Int) (k : Nat) : List Int := (List.range k).map fun i : Nat => stdPort W r ((i : Int) / countG W H) ((i : Int) % countG W H)
def stdTab (W H r : Int) : List Int := stdTo W H r (sqG W H)
def stdGood (W H r : Int) : Bool := minimalG W H [] (stdTab W H r) && decide ((mostTo W H [] (stdTab W H r) (sqG W H) : Int) = diamG W H)

theorem std_111 : stdGood 1 1 1 = true := by decide +kernel
theorem std_112 : stdGood 1 1 2 = true := by decide +kernel
theorem std_113 : stdGood 1 1 3 = true := by decide +kernel
theorem std_114 : stdGood 1 1 4 = true := by decide +kernel
theorem std_121 : stdGood 1 2 1 = true := by decide +kernel
theorem std_122 : stdGood 1 2 2 = true := by decide +kernel
theorem std_123 : stdGood 1 2 3 = true := by decide +kernel
theorem std_124 : stdGood 1 2 4 = true := by decide +kernel
theorem std_131 : stdGood 1 3 1 = true := by decide +kernel
theorem std_132 : stdGood 1 3 2 = true := by decide +kernel
theorem std_133 : stdGood 1 3 3 = true := by decide +kernel
theorem std_134 : stdGood 1 3 4 = true := by decide +kernel
theorem std_141 : stdGood 1 4 1 = true := by decide +kernel
theorem std_142 : stdGood 1 4 2 = true := by decide +kernel
theorem std_143 : stdGood 1 4 3 = true := by decide +kernel
theorem std_144 : stdGood 1 4 4 = true := by decide +kernel
theorem std_211 : stdGood 2 1 1 = true := by decide +kernel
theorem std_212 : stdGood 2 1 2 = true := by decide +kernel
theorem std_213 : stdGood 2 1 3 = true := by decide +kernel
theorem std_214 : stdGood 2 1 4 = true := by decide +kernel
theorem std_221 : stdGood 2 2 1 = true := by decide +kernel
theorem std_222 : stdGood 2 2 2 = true := by decide +kernel
theorem std_223 : stdGood 2 2 3 = true := by decide +kernel
theorem std_224 : stdGood 2 2 4 = true := by decide +kernel
theorem std_231 : stdGood 2 3 1 = true := by decide +kernel
theorem std_232 : stdGood 2 3 2 = true := by decide +kernel
theorem std_233 : stdGood 2 3 3 = true := by decide +kernel
theorem std_234 : stdGood 2 3 4 = true := by decide +kernel
theorem std_241 : stdGood 2 4 1 = true := by decide +kernel
theorem std_242 : stdGood 2 4 2 = true := by decide +kernel
theorem std_243 : stdGood 2 4 3 = true := by decide +kernel
theorem std_244 : stdGood 2 4 4 = true := by decide +kernel
theorem std_311 : stdGood 3 1 1 = true := by decide +kernel
theorem std_312 : stdGood 3 1 2 = true := by decide +kernel
theorem std_313 : stdGood 3 1 3 = true := by decide +kernel
theorem std_314 : stdGood 3 1 4 = true := by decide +kernel
theorem std_321 : stdGood 3 2 1 = true := by decide +kernel
theorem std_322 : stdGood 3 2 2 = true := by decide +kernel
theorem std_323 : stdGood 3 2 3 = true := by decide +kernel
theorem std_324 : stdGood 3 2 4 = true := by decide +kernel
theorem std_331 : stdGood 3 3 1 = true := by decide +kernel
theorem std_332 : stdGood 3 3 2 = true := by decide +kernel
theorem std_333 : stdGood 3 3 3 = true := by decide +kernel
theorem std_334 : stdGood 3 3 4 = true := by decide +kernel
theorem std_341 : stdGood 3 4 1 = true := by decide +kernel
theorem std_342 : stdGood 3 4 2 = true := by decide +kernel
theorem std_343 : stdGood 3 4 3 = true := by decide +kernel
theorem std_344 : stdGood 3 4 4 = true := by decide +kernel
theorem std_411 : stdGood 4 1 1 = true := by decide +kernel
theorem std_412 : stdGood 4 1 2 = true := by decide +kernel
theorem std_413 : stdGood 4 1 3 = true := by decide +kernel
theorem std_414 : stdGood 4 1 4 = true := by decide +kernel
theorem std_421 : stdGood 4 2 1 = true := by decide +kernel
theorem std_422 : stdGood 4 2 2 = true := by decide +kernel
theorem std_423 : stdGood 4 2 3 = true := by decide +kernel
theorem std_424 : stdGood 4 2 4 = true := by decide +kernel
theorem std_431 : stdGood 4 3 1 = true := by decide +kernel
theorem std_432 : stdGood 4 3 2 = true := by decide +kernel
theorem std_433 : stdGood 4 3 3 = true := by decide +kernel
theorem std_434 : stdGood 4 3 4 = true := by decide +kernel
theorem std_441 : stdGood 4 4 1 = true := by decide +kernel
theorem std_442 : stdGood 4 4 2 = true := by decide +kernel
theorem std_443 : stdGood 4 4 3 = true := by decide +kernel
theorem std_444 : stdGood 4 4 4 = true := by decide +kernel
theorem std_good {W H r : Int} (h : okG W H = true) (h1 : 1 ≤ r) (h4 : r ≤ 4) : stdGood W H r = true := by
  obtain ⟨hW, hH⟩ := okG_cases h
  have hr : r = 1 ∨ r = 2 ∨ r = 3 ∨ r = 4 := by omega
  clear h h1 h4
  rcases hW with rfl | rfl | rfl | rfl
  · rcases hH with rfl | rfl | rfl | rfl
    · rcases hr with rfl | rfl | rfl | rfl
      · exact std_111
      · exact std_112
      · exact std_113
      · exact std_114
    · rcases hr with rfl | rfl | rfl | rfl
      · exact std_121
      · exact std_122
      · exact std_123
      · exact std_124
    · rcases hr with rfl | rfl | rfl | rfl
      · exact std_131
      · exact std_132
      · exact std_133
      · exact std_134
    · rcases hr with rfl | rfl | rfl | rfl
      · exact std_141
      · exact std_142
      · exact std_143
      · exact std_144
  · rcases hH with rfl | rfl | rfl | rfl
    · rcases hr with rfl | rfl | rfl | rfl
      · exact std_211
      · exact std_212
      · exact std_213
      · exact std_214
    · rcases hr with rfl | rfl | rfl | rfl
      · exact std_221
      · exact std_222
      · exact std_223
      · exact std_224
    · rcases hr with rfl | rfl | rfl | rfl
      · exact std_231
      · exact std_232
      · exact std_233
      · exact std_234
    · rcases hr with rfl | rfl | rfl | rfl
      · exact std_241
      · exact std_242
      · exact std_243
      · exact std_244
  · rcases hH with rfl | rfl | rfl | rfl
    · rcases hr with rfl | rfl | rfl | rfl
      · exact std_311
      · exact std_312
      · exact std_313
      · exact std_314
    · rcases hr with rfl | rfl | rfl | rfl
      · exact std_321
      · exact std_322
      · exact std_323
      · exact std_324
    · rcases hr with rfl | rfl | rfl | rfl
      · exact std_331
      · exact std_332
      · exact std_333
      · exact std_334
    · rcases hr with rfl | rfl | rfl | rfl
      · exact std_341
      · exact std_342
      · exact std_343
      · exact std_344
  · rcases hH with rfl | rfl | rfl | rfl
    · rcases hr with rfl | rfl | rfl | rfl
      · exact std_411
      · exact std_412
      · exact std_413
      · exact std_414
    · rcases hr with rfl | rfl | rfl | rfl
      · exact std_421
      · exact std_422
      · exact std_423
      · exact std_424
    · rcases hr with rfl | rfl | rfl | rfl
      · exact std_431
      · exact std_432
      · exact std_433
      · exact std_434
    · rcases hr with rfl | rfl | rfl | rfl
      · exact std_441
      · exact std_442
      · exact std_443
      · exact std_444
theorem std_facts {W H r : Int} (h : okG W H = true) (h1 : 1 ≤ r) (h4 : r ≤ 4) : tableG W H [] (stdTab W H r) = true ∧ minimalG W H [] (stdTab W H r) = true ∧ longG W H [] (stdTab W H r) = diamG W H := by
  have hg := std_good h h1 h4
  simp only [stdGood, Bool.and_eq_true, decide_eq_true_eq] at hg
  have ht : tableG W H [] (stdTab W H r) = true := by have := hg.1; simp only [minimalG, Bool.and_eq_true] at this; exact this.1
  exact ⟨ht, hg.1, by rw [longG, if_pos ht]; exact hg.2⟩
theorem stdTo_succ (W H r : Int) (k : Nat) : stdTo W H r (k + 1) = stdTo W H r k ++ [stdPort W r ((k : Int) / countG W H) ((k : Int) % countG W H)] := by
  simp [stdTo, List.range_succ]
theorem stdTo_len (W H r : Int) (k : Nat) : (stdTo W H r k).length = k := by simp [stdTo]
theorem stdPort_le (W r a b : Int) : 0 ≤ stdPort W r a b ∧ stdPort W r a b ≤ 4 := by
  unfold stdPort colPort rowPort
  repeat' split
  all_goals omega
end Go.Proofs.Ytcmlnokfjbglaaa
end

section
namespace Go.Proofs.Ytcmlnokfjbglaaa
open Go.ChangeShapes Go.WideShapes Go.ChangeAt Go.RowKit
set_option linter.unusedVariables false

/-- A grid as a value. -/
def gridV (W H : Int) : Value := .agg #[.int .i64 W, .int .i64 H]
def gridC (W H : Int) : Array Value := #[.int .i64 W, .int .i64 H]

theorem specGridOk (W H : Int) (w : World) :
    Calls Try.prog 81 #[.agg #[.int .i64 W, .int .i64 H]] w (RetB (okG W H) w) := by
  by_cases h1 : 1 ≤ W ∧ W ≤ 4
  · by_cases h2 : 1 ≤ H ∧ H ≤ 4
    all_goals
      go_enter Try.func81, Try.ntmps81
      go_wp2_with fail
      refine (specInV W 1 4 true (by simpa using h1) _).mono ?_
      rintro e w1 ⟨rfl, rfl⟩
      go_wp2_with fail
      first
      | refine (specInV H 1 4 true (by simpa using h2) _).mono ?_
      | refine (specInV H 1 4 false (by simpa using h2) _).mono ?_
      rintro e w1 ⟨rfl, rfl⟩
      go_wp2_with fail
      go_ret
      exact ⟨ret_bool (by simp [okG]; omega), gb_alloc (gb_refl _ _) _⟩
  · go_enter Try.func81, Try.ntmps81
    go_wp2_with fail
    refine (specInV W 1 4 false (by simpa using h1) _).mono ?_
    rintro e w1 ⟨rfl, rfl⟩
    go_wp2_with fail
    go_ret
    exact ⟨ret_bool (by simp [okG]; omega), gb_alloc (gb_refl _ _) _⟩

theorem specNodeCount (W H : Int) (w : World) :
    Calls Try.prog 99 #[.agg #[.int .i64 W, .int .i64 H]] w (RetI (countG W H) none w) := by
  cases hok : okG W H with
  | true =>
    obtain ⟨hW, hH⟩ := okG_cases hok
    have hm : wrap64 (W * H) = countG W H := by
      simp only [countG, hok, if_true]
      rcases hW with rfl | rfl | rfl | rfl <;> rcases hH with rfl | rfl | rfl | rfl <;> exact IntWalk.wrap64_in _ (by omega)
    have Hm := Lib.hid hm
    clear hW hH hm
    go_enter Try.func99, Try.ntmps99
    go_wp2_with fail
    refine (specGridOk W H _).mono ?_
    rintro e w1 ⟨rfl, hg⟩
    have hb := box_blk hg
    have c0 : w1.cell? ⟨w.heap.size, 0, none⟩ = some (.int .i64 W) := hb.cell 0
    have c1 : w1.cell? ⟨w.heap.size, 1, none⟩ = some (.int .i64 H) := hb.cell 1
    have Hg := Lib.hid hg
    clear hg hb
    rw [hok]
    go_wp2_with fail
    go_ret
    exact ⟨ret_int64 (by rw [← Hm.out]), box_gb Hg.out⟩
  | false =>
    go_enter Try.func99, Try.ntmps99
    go_wp2_with fail
    refine (specGridOk W H _).mono ?_
    rintro e w1 ⟨rfl, hg⟩
    rw [hok]
    go_wp2_with fail
    go_ret
    exact ⟨ret_int64 (by simp [countG, hok]), box_gb hg⟩
end Go.Proofs.Ytcmlnokfjbglaaa
end

section
namespace Go.Proofs.Ytcmlnokfjbglaaa
open Go.ChangeShapes Go.WideShapes Go.ChangeAt Go.RowKit
set_option linter.unusedVariables false
set_option linter.unusedSimpArgs false

theorem specColumn (x u : Int) (w : World) :
    Calls Try.prog 121 #[.int .i64 x, .int .i64 u] w fun e w' => e = .returned (.int .i64 (colPort x u)) ∧ w = w' := by
  by_cases h : u < x
  all_goals
    go_enter Try.func121, Try.ntmps121
    go_wp2_with fail
    go_ret
    exact ⟨ret_int64 (by simp [colPort, h]), rfl⟩
theorem specRow (y v : Int) (w : World) :
    Calls Try.prog 122 #[.int .i64 y, .int .i64 v] w fun e w' => e = .returned (.int .i64 (rowPort y v)) ∧ w = w' := by
  by_cases h : v < y
  all_goals
    go_enter Try.func122, Try.ntmps122
    go_wp2_with fail
    go_ret
    exact ⟨ret_int64 (by simp [rowPort, h]), rfl⟩

set_option maxRecDepth 100000 in
set_option maxHeartbeats 1600000 in
theorem specStdPort (W H r a b : Int) (hr1 : 1 ≤ r) (hr4 : r ≤ 4) (ha : hasG W H a = true) (hb : hasG W H b = true) (w : World) :
    Calls Try.prog 104 #[.agg #[.int .i64 W, .int .i64 H], .int .i64 r, .int .i64 a, .int .i64 b] w (RetI (stdPort W r a b) none w) := by
  obtain ⟨hW, hH⟩ := okG_cases (hasG_ok ha).1
  obtain ⟨a0, a1⟩ := hasG_le ha
  obtain ⟨b0, b1⟩ := hasG_le hb
  have qa := row_wrap a0 a1 hW
  have qb := row_wrap b0 b1 hW
  obtain ⟨res, hres⟩ : ∃ p, stdPort W r a b = p := ⟨_, rfl⟩
  rw [hres]
  have hS := hres
  unfold stdPort at hS
  obtain ⟨p1, p2, p3, p4, _⟩ := place_of ha
  obtain ⟨s1, s2, s3, s4, _⟩ := place_of hb
  obtain ⟨x, hx⟩ : ∃ x, a % W = x := ⟨_, rfl⟩
  obtain ⟨y, hy⟩ : ∃ y, a / W = y := ⟨_, rfl⟩
  obtain ⟨u, hu⟩ : ∃ u, b % W = u := ⟨_, rfl⟩
  obtain ⟨v, hv⟩ : ∃ v, b / W = v := ⟨_, rfl⟩
  rw [hx, hy, hu, hv] at hS
  have hW1 : 1 ≤ W ∧ W ≤ 4 := by omega
  have hH2 : H ≤ 4 := by omega
  obtain ⟨hWa, hWb⟩ := hW1
  have da : a.tdiv W = y := by rw [Int.tdiv_eq_ediv_of_nonneg a0]; exact hy
  have db : b.tdiv W = v := by rw [Int.tdiv_eq_ediv_of_nonneg b0]; exact hv
  have ta : a.tmod W = x := by rw [Int.tmod_eq_emod_of_nonneg a0]; exact hx
  have tb : b.tmod W = u := by rw [Int.tmod_eq_emod_of_nonneg b0]; exact hu
  rw [hx] at p1 p2
  rw [hy] at p3 p4 qa
  rw [hu] at s1 s2
  rw [hv] at s3 s4 qb
  have hWn : W ≠ 0 := by omega
  clear hW hH hres hy hv
  by_cases hab : a = b
  · have hq : (a == b) = true := by simpa using hab
    rw [if_pos hab] at hS
    have HS := Lib.hid hS
    clear hab hS da db qa qb ta tb
    go_enter Try.func104, Try.ntmps104
    go_wp2_with fail
    go_ret
    exact ⟨ret_int64 HS.out, gb_alloc (gb_refl _ _) _⟩
  · have hq : (a == b) = false := by simpa using hab
    rw [if_neg hab] at hS
    clear hab
    have hr : r = 1 ∨ r = 2 ∨ r = 3 ∨ r = 4 := by omega
    clear hr1 hr4
    rcases hr with rfl | rfl | rfl | rfl
    · by_cases hc : x = u
      · have hf : firstG (mixRule 1 b) x y u v = false := by simp [firstG, mixRule, hc]
        have hb1 : (x != u) = false := by simpa using hc
        rw [hf] at hS
        simp only [if_true, if_false, Bool.false_eq_true] at hS
        have HS := Lib.hid hS
        clear hf hS hc
        go_enter Try.func104, Try.ntmps104
        go_wp2_with fail
        refine (specRow y v _).mono ?_
        rintro e w1 ⟨rfl, rfl⟩
        go_wp2_with fail
        go_ret
        exact ⟨ret_int64 HS.out, gb_alloc (gb_refl _ _) _⟩
      · have hf : firstG (mixRule 1 b) x y u v = true := by simp [firstG, mixRule, hc]
        have hb1 : (x != u) = true := by simpa using hc
        rw [hf] at hS
        simp only [if_true] at hS
        have HS := Lib.hid hS
        clear hf hS hc
        go_enter Try.func104, Try.ntmps104
        go_wp2_with fail
        refine (specColumn x u _).mono ?_
        rintro e w1 ⟨rfl, rfl⟩
        go_wp2_with fail
        go_ret
        exact ⟨ret_int64 HS.out, gb_alloc (gb_refl _ _) _⟩
    · by_cases hc : y = v
      · have hf : firstG (mixRule 2 b) x y u v = true := by simp [firstG, mixRule, hc]
        have hb1 : (y == v) = true := by simpa using hc
        rw [hf] at hS
        simp only [if_true] at hS
        have HS := Lib.hid hS
        clear hf hS hc
        go_enter Try.func104, Try.ntmps104
        go_wp2_with fail
        refine (specColumn x u _).mono ?_
        rintro e w1 ⟨rfl, rfl⟩
        go_wp2_with fail
        go_ret
        exact ⟨ret_int64 HS.out, gb_alloc (gb_refl _ _) _⟩
      · have hf : firstG (mixRule 2 b) x y u v = false := by simp [firstG, mixRule, hc]
        have hb1 : (y == v) = false := by simpa using hc
        rw [hf] at hS
        simp only [if_true, if_false, Bool.false_eq_true] at hS
        have HS := Lib.hid hS
        clear hf hS hc
        go_enter Try.func104, Try.ntmps104
        go_wp2_with fail
        refine (specRow y v _).mono ?_
        rintro e w1 ⟨rfl, rfl⟩
        go_wp2_with fail
        go_ret
        exact ⟨ret_int64 HS.out, gb_alloc (gb_refl _ _) _⟩
    · by_cases hc : u < x
      · have hf : firstG (mixRule 3 b) x y u v = true := by simp [firstG, mixRule, hc]
        rw [hf] at hS
        simp only [if_true] at hS
        have HS := Lib.hid hS
        clear hf hS
        go_enter Try.func104, Try.ntmps104
        go_wp2_with fail
        refine (specColumn x u _).mono ?_
        rintro e w1 ⟨rfl, rfl⟩
        go_wp2_with fail
        go_ret
        exact ⟨ret_int64 HS.out, gb_alloc (gb_refl _ _) _⟩
      · have hl := hc
        clear hc
        by_cases hc : y = v
        · have hf : firstG (mixRule 3 b) x y u v = true := by simp [firstG, mixRule, hl, hc]
          have hb1 : (y == v) = true := by simpa using hc
          rw [hf] at hS
          simp only [if_true] at hS
          have HS := Lib.hid hS
          clear hf hS hc
          go_enter Try.func104, Try.ntmps104
          go_wp2_with fail
          refine (specColumn x u _).mono ?_
          rintro e w1 ⟨rfl, rfl⟩
          go_wp2_with fail
          go_ret
          exact ⟨ret_int64 HS.out, gb_alloc (gb_refl _ _) _⟩
        · have hf : firstG (mixRule 3 b) x y u v = false := by simp [firstG, mixRule, hl, hc]
          have hb1 : (y == v) = false := by simpa using hc
          rw [hf] at hS
          simp only [if_true, if_false, Bool.false_eq_true] at hS
          have HS := Lib.hid hS
          clear hf hS hc
          go_enter Try.func104, Try.ntmps104
          go_wp2_with fail
          refine (specRow y v _).mono ?_
          rintro e w1 ⟨rfl, rfl⟩
          go_wp2_with fail
          go_ret
          exact ⟨ret_int64 HS.out, gb_alloc (gb_refl _ _) _⟩
    · rcases (show b % 2 = 0 ∨ b % 2 = 1 by omega) with hpar | hpar
      · by_cases hc : x = u
        · have hf : firstG (mixRule 4 b) x y u v = false := by simp [firstG, mixRule, hpar, hc]
          have hb1 : (x != u) = false := by simpa using hc
          rw [hf] at hS
          simp only [if_true, if_false, Bool.false_eq_true] at hS
          have HS := Lib.hid hS
          clear hf hS hc
          go_enter Try.func104, Try.ntmps104
          go_wp2_with fail
          refine (specRow y v _).mono ?_
          rintro e w1 ⟨rfl, rfl⟩
          go_wp2_with fail
          go_ret
          exact ⟨ret_int64 HS.out, gb_alloc (gb_refl _ _) _⟩
        · have hf : firstG (mixRule 4 b) x y u v = true := by simp [firstG, mixRule, hpar, hc]
          have hb1 : (x != u) = true := by simpa using hc
          rw [hf] at hS
          simp only [if_true] at hS
          have HS := Lib.hid hS
          clear hf hS hc
          go_enter Try.func104, Try.ntmps104
          go_wp2_with fail
          refine (specColumn x u _).mono ?_
          rintro e w1 ⟨rfl, rfl⟩
          go_wp2_with fail
          go_ret
          exact ⟨ret_int64 HS.out, gb_alloc (gb_refl _ _) _⟩
      · by_cases hc : y = v
        · have hf : firstG (mixRule 4 b) x y u v = true := by simp [firstG, mixRule, hpar, hc]
          have hb1 : (y == v) = true := by simpa using hc
          rw [hf] at hS
          simp only [if_true] at hS
          have HS := Lib.hid hS
          clear hf hS hc
          go_enter Try.func104, Try.ntmps104
          go_wp2_with fail
          refine (specColumn x u _).mono ?_
          rintro e w1 ⟨rfl, rfl⟩
          go_wp2_with fail
          go_ret
          exact ⟨ret_int64 HS.out, gb_alloc (gb_refl _ _) _⟩
        · have hf : firstG (mixRule 4 b) x y u v = false := by simp [firstG, mixRule, hpar, hc]
          have hb1 : (y == v) = false := by simpa using hc
          rw [hf] at hS
          simp only [if_true, if_false, Bool.false_eq_true] at hS
          have HS := Lib.hid hS
          clear hf hS hc
          go_enter Try.func104, Try.ntmps104
          go_wp2_with fail
          refine (specRow y v _).mono ?_
          rintro e w1 ⟨rfl, rfl⟩
          go_wp2_with fail
          go_ret
          exact ⟨ret_int64 HS.out, gb_alloc (gb_refl _ _) _⟩
end Go.Proofs.Ytcmlnokfjbglaaa
end

section
namespace Go.Proofs.Ytcmlnokfjbglaaa
open Go.ChangeShapes Go.WideShapes Go.ChangeAt Go.RowKit
set_option linter.unusedVariables false

theorem box2 {w w1 : World} {T U : TypeId} {cs ds : Array Value} (h : ((w.alloc (.cells cs T)).alloc (.cells ds U)).grownBy w1 none) :
    Blk w1 w.heap.size T cs ∧ Blk w1 (w.heap.size + 1) U ds ∧ w.grownBy w1 none := by
  refine ⟨((Blk.new w T cs).alloc _).grown h (by simp), ?_, gb_trans (gb_alloc (gb_alloc (gb_refl _ _) _) _) h⟩
  have := (Blk.new (w.alloc (.cells cs T)) U ds).grown h (by simp)
  rwa [alloc_size] at this
theorem sq_bounds {k : Int} (h0 : 0 ≤ k) (h1 : k ≤ 16) : 0 ≤ k * k ∧ k * k ≤ 256 := by
  have e : k = (k.toNat : Int) := (Int.toNat_of_nonneg h0).symm
  have h2 : k.toNat ≤ 16 := by omega
  have h3 : k.toNat * k.toNat ≤ 16 * 16 := Nat.mul_le_mul h2 h2
  rw [e, ← Int.natCast_mul]
  omega
end Go.Proofs.Ytcmlnokfjbglaaa
end

section
namespace Go.Proofs.Ytcmlnokfjbglaaa
open Go.ChangeShapes Go.WideShapes Go.ChangeAt Go.RowKit
set_option linter.unusedVariables false

theorem gb_undraw1 {a b : World} {row : Option Nat} (h : a.drew.grownBy b row) : a.grownBy b row := ⟨h.os, h.tape, h.output, h.size, h.block⟩
/-- A new table with these entries. -/
def NewTabS (P : List Int) (w : World) (e : Ending) (w' : World) : Prop :=
  ∃ v, e = .returned (.agg #[v]) ∧ w'.ownsRow w.heap.size 3 1 v P.length (intsV P) ∧ Below w.heap.size w w'
def MakeAt (W H r : Int) (w : World) (k : Nat) (v : Value) (wr : World) : Prop :=
  Blk wr w.heap.size 27 #[.int .i64 W, .int .i64 H] ∧ Blk wr (w.heap.size + 1) 32 #[.slice none 0 0] ∧ Blk wr (w.heap.size + 1 + 1) 32 #[v] ∧
  wr.ownsRow (w.heap.size + 3) 3 1 v k (intsV (stdTo W H r k)) ∧ Below w.heap.size w wr
theorem MakeAt.app {W H r : Int} {w wr w5 : World} {k : Nat} {v v' : Value} {o : Obj} (h : MakeAt W H r w k v wr) (hg : (wr.alloc o).grownBy w5 v.ownBlock)
    (ho : w5.ownsRow (w.heap.size + 3) 3 1 v' (k + 1) (intsV (stdTo W H r k) ++ [.int .i64 (stdPort W r ((k : Int) / countG W H) ((k : Int) % countG W H))])) :
    MakeAt W H r w (k + 1) v' (w5.setCell ⟨w.heap.size + 1 + 1, 0, none⟩ v') := by
  obtain ⟨h0, h1, h2, hown, hb⟩ := h
  have hne : ∀ g, g < w.heap.size + 3 → some g ≠ v.ownBlock := fun g hg e => by have := (hown.lt g e.symm).1; omega
  refine ⟨((h0.alloc o).grown hg (hne _ (by omega))).far (by show w.heap.size ≠ w.heap.size + 1 + 1; omega) _, ((h1.alloc o).grown hg (hne _ (by omega))).far (by show w.heap.size + 1 ≠ w.heap.size + 1 + 1; omega) _, ?_, ?_, ?_⟩
  · have := ((h2.alloc o).grown hg (hne _ (by omega))).set_ 0 v'
    simpa using this
  · rw [stdTo_succ, intsV_append]
    exact ownsRow_setCell_below ho (by show w.heap.size + 1 + 1 < w.heap.size + 3; omega) _
  · have h3 := (hb.alloc hb.size o).grown hg (by have := hb.size; simp; omega) (fun j hj => by have := (hown.lt j hj).1; omega)
    exact gb_below_none (gb_setCell (gb_of_below h3 none) (.inr (by show w.heap.size ≤ w.heap.size + 1 + 1; omega)) _) (Nat.le_refl _)
theorem MakeAt.none {W H r : Int} {w wr w5 : World} {k : Nat} {v : Value} (h : MakeAt W H r w k v wr) (hg : wr.grownBy w5 none) : MakeAt W H r w k v w5 :=
  ⟨h.1.grown hg (by simp), h.2.1.grown hg (by simp), h.2.2.1.grown hg (by simp), own_none h.2.2.2.1 hg, below_gb h.2.2.2.2 (Nat.le_refl _) hg⟩

theorem specNodeCountV2 (W H k : Int) (h : countG W H = k) (w : World) :
    Calls Try.prog 99 #[.agg #[.int .i64 W, .int .i64 H]] w (RetI k none w) := h ▸ specNodeCount W H w

set_option maxRecDepth 100000 in
theorem specMake (W H r : Int) (hok : okG W H = true) (hr1 : 1 ≤ r) (hr4 : r ≤ 4) (w : World) :
    Calls Try.prog 82 #[.agg #[.int .i64 W, .int .i64 H], .int .i64 r] w (NewTabS (stdTab W H r) w) := by
  obtain ⟨i0, hi, hz0, hz1, hz2⟩ := info_parts info_int
  obtain ⟨k, hk⟩ : ∃ k, countG W H = k := ⟨_, rfl⟩
  obtain ⟨hk0, hk1⟩ := countG_le W H
  have hsq := sq_int W H
  have hsl := sq_le W H
  rw [hk] at hk0 hk1 hsq
  obtain ⟨m0, m1⟩ := sq_bounds hk0 hk1
  have HSQ := Lib.hid hsq
  have hw : wrap64 (k * k) = k * k := IntWalk.wrap64_in _ (by omega)
  have HN := Lib.hid (fun w => specNodeCountV2 W H k hk w)
  have HK := Lib.hid hk
  have hk1' : 1 ≤ k := by
    obtain ⟨hW, hH⟩ := okG_cases hok
    have hkc : k = W * H := by rw [← hk]; simp [countG, hok]
    rw [hkc]
    rcases hW with rfl | rfl | rfl | rfl <;> rcases hH with rfl | rfl | rfl | rfl <;> decide
  have HR := Lib.hid (And.intro hr1 hr4)
  have hB : MakeAt W H r w 0 (.slice none 0 0) (((w.alloc (.cells #[.int .i64 W, .int .i64 H] 27)).alloc (.cells #[.slice none 0 0] 32)).alloc (.cells #[.slice none 0 0] 32)) := by
    refine ⟨(((Blk.new w _ _).alloc _).alloc _), ?_, ?_, World.ownsRow_nil _ _ _ _, ?_⟩
    · have := Blk.new (w.alloc (.cells #[.int .i64 W, .int .i64 H] 27)) 32 #[.slice none 0 0]
      rw [alloc_size] at this
      exact this.alloc _
    · have := Blk.new ((w.alloc (.cells #[.int .i64 W, .int .i64 H] 27)).alloc (.cells #[.slice none 0 0] 32)) 32 #[.slice none 0 0]
      rw [alloc_size, alloc_size] at this
      exact this
    · exact gb_below_none (gb_alloc (gb_alloc (gb_alloc (gb_refl w none) _) _) _) (Nat.le_refl _)
  have HB := Lib.hid hB
  clear hk hsq hB hr1 hr4 hok
  go_enter Try.func82, Try.ntmps82
  go_wp2_with fail
  refine (HN.out _).mono ?_
  rintro e w1 ⟨rfl, hg⟩
  have HX := Lib.hid (HB.out.none hg)
  clear hg
  go_wp2_with fail
  go_loopw [7] (fun i wr => ∃ (x : Nat) (v : Value), i = .int .i64 (x : Int) ∧ (x : Int) ≤ k * k ∧ MakeAt W H r w x v wr) (fun i _ => 257 - (intOf i).toNat)
  case atStart => exact ⟨0, _, rfl, by omega, HX.out⟩
  case round =>
    obtain ⟨x, v, rfl, hx, hmk⟩ := hrel
    have HMK := Lib.hid hmk
    have a0 : wr.cell? ⟨w.heap.size, 0, none⟩ = some (.int .i64 W) := hmk.1.cell 0
    have a1 : wr.cell? ⟨w.heap.size, 1, none⟩ = some (.int .i64 H) := hmk.1.cell 1
    have b1 : wr.cell? ⟨w.heap.size + 1, 0, none⟩ = some (.slice none 0 0) := hmk.2.1.cell 0
    have b2 : wr.cell? ⟨w.heap.size + 1 + 1, 0, none⟩ = some v := hmk.2.2.1.cell 0
    have f1 := hmk.2.1.frozen 0
    have f2 := hmk.2.2.1.frozen 0
    by_cases hlt : (x : Int) < k * k
    · obtain ⟨hax, hay⟩ := pair_at (W := W) (H := H) (i := x) (by have := HSQ.out; omega)
      obtain ⟨u, hu⟩ : ∃ u, (x : Int) / countG W H = u := ⟨_, rfl⟩
      obtain ⟨y, hy⟩ : ∃ y, (x : Int) % countG W H = y := ⟨_, rfl⟩
      rw [hu] at hax
      rw [hy] at hay
      have hu15 := hasG_le hax
      have hy15 := hasG_le hay
      have HU := Lib.hid hu
      have HY := Lib.hid hy
      rw [HK.out] at hu hy
      have q1 : (x : Int).tdiv k = u := by rw [Int.tdiv_eq_ediv_of_nonneg (by omega)]; exact hu
      have q2 : (x : Int).tmod k = y := by rw [Int.tmod_eq_emod_of_nonneg (by omega)]; exact hy
      have q3 : IntKind.i64.wrap u = u := IntWalk.i64_in _ (by omega)
      have q4 : IntKind.i64.wrap y = y := IntWalk.i64_in _ (by omega)
      have q5 : (k == 0) = false := by simp; omega
      have q6 : k ≠ 0 := by omega
      obtain ⟨p, hp⟩ : ∃ p, stdPort W r u y = p := ⟨_, rfl⟩
      have HPT := Lib.hid (fun w => hp ▸ specStdPort W H r u y HR.out.1 HR.out.2 hax hay w)
      have HP := Lib.hid hp
      have hx257 : x + 1 ≤ maxLen := by unfold maxLen; omega
      have hx8 : (x + 1) * 8 ≤ 140737488355328 := by omega
      have c4 : ∀ z ∈ [Value.int .i64 p], z.oneCell' = true := by simp [Value.oneCell']
      clear hax hay hu hy hmk hp
      go_wp2_with fail
      go_region_law
        (first
          | (go_simp; (with_reducible refine (HPT.out _).mono ?_); rintro e w4 ⟨rfl, hg4⟩; have M4 := Lib.hid (HMK.out.none (gb_undraw1 hg4)); have d0 : w4.cell? ⟨w.heap.size, 0, none⟩ = some (.int .i64 W) := M4.out.1.cell 0; have d1 : w4.cell? ⟨w.heap.size, 1, none⟩ = some (.int .i64 H) := M4.out.1.cell 1; have d2 : w4.cell? ⟨w.heap.size + 1 + 1, 0, none⟩ = some v := M4.out.2.2.1.cell 0; have d3 : (w4.alloc (.cells #[.int .i64 p] 3)).cell? ⟨w.heap.size + 1 + 1, 0, none⟩ = some v := (M4.out.2.2.1.alloc _).cell 0; have s4 : w.heap.size + 3 ≤ (w4.alloc (.cells #[.int .i64 p] 3)).heap.size := by have := M4.out.2.2.1.lt; rw [alloc_size]; omega
             have o4 := M4.out.2.2.2.1.alloc (.cells #[.int .i64 p] 3); clear hg4; go_simp)
          | (refine step_append_lies _ (by rfl) _ _ _ (by rfl) (w.heap.size + 3) 3 i0 _ 1 8 Try.underlying28 hi hz0 hz1 hz2 rfl (by omega) v x (intsV (stdTo W H r x)) (by rfl) o4
              ⟨w4.heap.size, 0, none⟩ 1 1 [.int .i64 p] (by rfl) (by rfl) (World.news_of_block (cs := #[.int .i64 p]) (t := 3) (fr := (0, 0)) (heap_alloc_new w4 _)) c4
              (by omega) hx257 hx8 s4 (w4.heap.size + 1) (by simp) ?_; intro g cap w5 hown5 hgrow hat hltg; have M5 := Lib.hid (MakeAt.app M4.out hgrow (by rw [HU.out, HY.out, HP.out]; exact hown5)); have hne : ∀ j, j < w.heap.size + 3 → some j ≠ v.ownBlock := fun j hj e => by have := (M4.out.2.2.2.1.lt j e.symm).1; omega
             have k0 := (M4.out.1.alloc (.cells #[.int .i64 p] 3)).grown hgrow (hne _ (by omega)); have k2 := (M4.out.2.2.1.alloc (.cells #[.int .i64 p] 3)).grown hgrow (hne _ (by omega)); have e0 : w5.cell? ⟨w.heap.size, 0, none⟩ = some (.int .i64 W) := k0.cell 0; have e1 : w5.cell? ⟨w.heap.size, 1, none⟩ = some (.int .i64 H) := k0.cell 1; have e2 : w5.cell? ⟨w.heap.size + 1 + 1, 0, none⟩ = some v := k2.cell 0; have f5 := k2.frozen 0; clear k0 k2 hne hown5 hgrow hat hltg)
          | fail)
      all_goals
        go_wp2_with fail
        go_roundw
        case rel => exact ⟨x + 1, _, by go_num, by omega, M5.out⟩
        case measure => simp [intOf]; omega
    · have hxk : x = sqG W H := by have := HSQ.out; omega
      have HE := Lib.hid hxk
      obtain ⟨Av, cv, rfl, _⟩ := own_form hmk.2.2.2.1
      clear hxk
      have h1 := (hmk.2.1.set_ 0 (.slice Av x cv)).cell 0
      simp at h1
      have O := Lib.hid hmk.2.2.2.1
      have BE := Lib.hid hmk.2.2.2.2
      clear hmk
      go_wp2_with fail
      refine bodyPost_ret (v := .agg #[.slice Av x cv]) (by simp [results, Try.results82, go_sem, h1]) rfl ⟨_, rfl, ?_, ?_⟩
      · have := ownsRow_setCell_below O.out (a := ⟨w.heap.size + 1, 0, none⟩) (by show w.heap.size + 1 < w.heap.size + 3; omega) (.slice Av x cv)
        rw [stdTab, stdTo_len, ← HE.out]
        exact own_less this (by omega)
      · exact gb_below_none (gb_setCell (gb_of_below BE.out none) (.inr (by show w.heap.size ≤ w.heap.size + 1; omega)) _) (Nat.le_refl _)
end Go.Proofs.Ytcmlnokfjbglaaa
end

section
namespace Go.Proofs.Ytcmlnokfjbglaaa
open Go.ChangeShapes Go.WideShapes Go.ChangeAt Go.RowKit
set_option linter.unusedVariables false

theorem cur_far {w : World} {g : Nat} {p : Addr} (h : Cur w g) (hp : g < p.block) (x : Value) : Cur (w.setCell p x) g :=
  h.grown (gb_setCell (gb_refl w (some p.block)) (.inl rfl) x) (fun k e => by cases e; exact hp)
theorem gb_setS {a w : World} {row : Option Nat} {b i j k : Nat} (h : a.grownBy w row) (hb : a.heap.size ≤ b) (x y z : Value) : a.grownBy (((w.setCell ⟨b, i, none⟩ x).setCell ⟨b, j, none⟩ y).setCell ⟨b, k, none⟩ z) row :=
  gb_setCell (gb_setCell (gb_setCell h (.inr hb) x) (.inr hb) y) (.inr hb) z
theorem gb_undraw2 {a b : World} {row : Option Nat} (h : a.drew.grownBy b row) : a.grownBy b row := ⟨h.os, h.tape, h.output, h.size, h.block⟩
end Go.Proofs.Ytcmlnokfjbglaaa
end

section
namespace Go.Proofs.Ytcmlnokfjbglaaa
open Go.ChangeShapes Go.WideShapes Go.ChangeAt Go.RowKit
set_option linter.unusedVariables false

/-- A mesh without broken channels and a standard table are returned; only the cursor and new blocks are written. -/
def DrawnTabC (g : Nat) (w : World) (e : Ending) (w' : World) : Prop := ∃ (W H r : Int) (v : Value), e = .returned (.tuple #[.agg #[.int .i64 W, .int .i64 H, .slice none 0 0], .agg #[v]]) ∧ okG W H = true ∧ 1 ≤ r ∧ r ≤ 4 ∧
  w'.ownsRow w.heap.size 3 1 v (stdTab W H r).length (intsV (stdTab W H r)) ∧ Cur w' g ∧ w.grownBy w' (some g)

set_option maxRecDepth 100000 in
theorem l04Case (g : Nat) (w : World) (hcur : Cur w g) :
    Calls Try.prog 53 #[.pointer (some ⟨g, 0, none⟩)] w (DrawnTabC g w) := by
  have hlt := hcur.lt
  have hg0 : w.grownBy ((w.alloc (.cells #[.int .i64 0, .int .i64 0, .slice none 0 0] 30)).alloc (.cells #[.slice none 0 0] 32)) none := gb_alloc (gb_alloc (gb_refl w none) _) _
  have hc0 : Cur ((w.alloc (.cells #[.int .i64 0, .int .i64 0, .slice none 0 0] 30)).alloc (.cells #[.slice none 0 0] 32)) g := hcur.grown hg0 (fun k e => by cases e)
  have hbM : Blk ((w.alloc (.cells #[.int .i64 0, .int .i64 0, .slice none 0 0] 30)).alloc (.cells #[.slice none 0 0] 32)) w.heap.size 30 #[.int .i64 0, .int .i64 0, .slice none 0 0] := (Blk.new w _ _).alloc _
  have hbT : Blk ((w.alloc (.cells #[.int .i64 0, .int .i64 0, .slice none 0 0] 30)).alloc (.cells #[.slice none 0 0] 32)) (w.heap.size + 1) 32 #[.slice none 0 0] := by
    have := Blk.new (w.alloc (.cells #[.int .i64 0, .int .i64 0, .slice none 0 0] 30)) 32 #[.slice none 0 0]
    rwa [alloc_size] at this
  have HBM := Lib.hid hbM
  have HBT := Lib.hid hbT
  have HG0 := Lib.hid (gb_of_none hg0 (some g))
  clear hcur hbM hbT hg0
  go_enter Try.func53, Try.ntmps53
  go_wp2_with fail
  refine (l02Grid g _ hc0).mono ?_
  rintro e w1 ⟨W, H, rfl, hok, hc1, hg1⟩
  have HOK := Lib.hid hok
  have HG1 := Lib.hid (gb_trans HG0.out hg1)
  have HM1 := Lib.hid ((HBM.out.grown hg1 (fun e => by cases e; omega)).alloc (.cells #[.int .i64 W, .int .i64 H, .slice none 0 0] 30))
  have HT1 := Lib.hid ((HBT.out.grown hg1 (fun e => by cases e; omega)).alloc (.cells #[.int .i64 W, .int .i64 H, .slice none 0 0] 30))
  have HQ1 := Lib.hid (Blk.new w1 30 #[.int .i64 W, .int .i64 H, .slice none 0 0])
  have HC1 : Hid (Cur (w1.alloc (.cells #[.int .i64 W, .int .i64 H, .slice none 0 0] 30)).drew g) := (hc1.grown (gb_alloc (gb_refl _ none) (.cells #[.int .i64 W, .int .i64 H, .slice none 0 0] 30)) (fun k e => by cases e) : Cur (w1.alloc (.cells #[.int .i64 W, .int .i64 H, .slice none 0 0] 30)) g)
  have hs1 : w.heap.size + 2 ≤ w1.heap.size := by have := hg1.size; rw [alloc_size, alloc_size] at this; omega
  have hgw : g ≠ w1.heap.size := by omega
  clear hok hc0 hc1 hg1
  go_wp2_with fail
  have a0 : (w1.alloc (.cells #[.int .i64 W, .int .i64 H, .slice none 0 0] 30)).cell? ⟨w1.heap.size, 0, none⟩ = some (.int .i64 W) := HQ1.out.cell 0
  have a1 : (w1.alloc (.cells #[.int .i64 W, .int .i64 H, .slice none 0 0] 30)).cell? ⟨w1.heap.size, 1, none⟩ = some (.int .i64 H) := HQ1.out.cell 1
  have a2 : (w1.alloc (.cells #[.int .i64 W, .int .i64 H, .slice none 0 0] 30)).cell? ⟨w1.heap.size, 2, none⟩ = some (.slice none 0 0) := HQ1.out.cell 2
  have z0 : (w1.alloc (.cells #[.int .i64 W, .int .i64 H, .slice none 0 0] 30)).drew.cell? ⟨w1.heap.size, 0, none⟩ = some (.int .i64 W) := a0
  have z1 : (w1.alloc (.cells #[.int .i64 W, .int .i64 H, .slice none 0 0] 30)).drew.cell? ⟨w1.heap.size, 1, none⟩ = some (.int .i64 H) := a1
  have z2 : (w1.alloc (.cells #[.int .i64 W, .int .i64 H, .slice none 0 0] 30)).drew.cell? ⟨w1.heap.size, 2, none⟩ = some (.slice none 0 0) := a2
  go_region_held3 (fun w' => w'.cell? ⟨w1.heap.size, 0, none⟩ = some (.int .i64 W) ∧ w'.cell? ⟨w1.heap.size, 1, none⟩ = some (.int .i64 H) ∧ w'.cell? ⟨w1.heap.size, 2, none⟩ = some (.slice none 0 0))
    (first | with_reducible exact ⟨z0, z1, z2⟩ | with_reducible exact ⟨a0, a1, a2⟩ | with_reducible exact ⟨d0, d1, d2⟩ | with_reducible exact ⟨e0, e1, e2⟩ | with_reducible exact ⟨s0, s1, s2⟩ | with_reducible exact ⟨u0, u1, u2⟩ | fail)
    (first
      | (go_at_call 83; (with_reducible refine (l01Below 4 g _ HC1.out).mono ?_); rintro e w4 ⟨x, rfl, x0, x1, x2, hc4, hg4⟩; have x3 := x1 (by omega); have q1 : IntKind.i64.wrap (1 + x) = 1 + x := IntWalk.i64_in _ (by omega)
         have HC4 := Lib.hid hc4; have HG4 := Lib.hid (gb_trans (gb_alloc HG1.out (.cells #[.int .i64 W, .int .i64 H, .slice none 0 0] 30)) (gb_undraw2 hg4)); have HX := Lib.hid (And.intro x0 x3)
         have HQ4 := Lib.hid (HQ1.out.grown (gb_undraw2 hg4) (fun e => by cases e; omega)); have HM4 := Lib.hid (HM1.out.grown (gb_undraw2 hg4) (fun e => by cases e; omega)); have HT4 := Lib.hid (HT1.out.grown (gb_undraw2 hg4) (fun e => by cases e; omega))
         have d0 : w4.cell? ⟨w1.heap.size, 0, none⟩ = some (.int .i64 W) := HQ4.out.cell 0; have d1 : w4.cell? ⟨w1.heap.size, 1, none⟩ = some (.int .i64 H) := HQ4.out.cell 1; have d2 : w4.cell? ⟨w1.heap.size, 2, none⟩ = some (.slice none 0 0) := HQ4.out.cell 2; clear hc4 hg4 x1 x2)
      | (go_at_call 82; (with_reducible refine (specMake W H (1 + x) HOK.out (by omega) (by omega) _).mono ?_); rintro e w5 ⟨v, rfl, o5, b5⟩
         obtain ⟨A5, c5, rfl, _⟩ := own_form o5
         have hg5 := gb_of_below b5 none
         have HC5 := Lib.hid (HC4.out.grown hg5 (fun k e => by cases e)); have HG5 := Lib.hid (gb_trans HG4.out (gb_of_none hg5 _)); have HO5 := Lib.hid o5
         have HQ5 := Lib.hid (HQ4.out.grown hg5 (by simp)); have HM5 := Lib.hid (HM4.out.grown hg5 (by simp)); have HT5 := Lib.hid (HT4.out.grown hg5 (by simp))
         have e0 : w5.cell? ⟨w1.heap.size, 0, none⟩ = some (.int .i64 W) := HQ5.out.cell 0; have e1 : w5.cell? ⟨w1.heap.size, 1, none⟩ = some (.int .i64 H) := HQ5.out.cell 1; have e2 : w5.cell? ⟨w1.heap.size, 2, none⟩ = some (.slice none 0 0) := HQ5.out.cell 2
         have m0 : w5.cell? ⟨w.heap.size, 0, none⟩ = some (.int .i64 0) := HM5.out.cell 0; have m1 : w5.cell? ⟨w.heap.size, 1, none⟩ = some (.int .i64 0) := HM5.out.cell 1; have m2 : w5.cell? ⟨w.heap.size, 2, none⟩ = some (.slice none 0 0) := HM5.out.cell 2
         have t0 : w5.cell? ⟨w.heap.size + 1, 0, none⟩ = some (.slice none 0 0) := HT5.out.cell 0
         have hne1 : w1.heap.size ≠ w.heap.size := by omega
         have hne2 : w1.heap.size ≠ w.heap.size + 1 := by omega
         have Q7 := Lib.hid (((HQ5.out.far (p := ⟨w.heap.size, 0, none⟩) hne1 (.int .i64 W)).far (p := ⟨w.heap.size, 1, none⟩) hne1 (.int .i64 H)).far (p := ⟨w.heap.size, 2, none⟩) hne1 (.slice none 0 0))
         have Q8 := Lib.hid (Q7.out.far (p := ⟨w.heap.size + 1, 0, none⟩) hne2 (.slice A5 (stdTab W H (1 + x)).length c5))
         have s0 : (((w5.setCell ⟨w.heap.size, 0, none⟩ (.int .i64 W)).setCell ⟨w.heap.size, 1, none⟩ (.int .i64 H)).setCell ⟨w.heap.size, 2, none⟩ (.slice none 0 0)).cell? ⟨w1.heap.size, 0, none⟩ = some (.int .i64 W) := Q7.out.cell 0
         have u0 : ((((w5.setCell ⟨w.heap.size, 0, none⟩ (.int .i64 W)).setCell ⟨w.heap.size, 1, none⟩ (.int .i64 H)).setCell ⟨w.heap.size, 2, none⟩ (.slice none 0 0)).setCell ⟨w.heap.size + 1, 0, none⟩ (.slice A5 (stdTab W H (1 + x)).length c5)).cell? ⟨w1.heap.size, 0, none⟩ = some (.int .i64 W) := Q8.out.cell 0
         have s1 : (((w5.setCell ⟨w.heap.size, 0, none⟩ (.int .i64 W)).setCell ⟨w.heap.size, 1, none⟩ (.int .i64 H)).setCell ⟨w.heap.size, 2, none⟩ (.slice none 0 0)).cell? ⟨w1.heap.size, 1, none⟩ = some (.int .i64 H) := Q7.out.cell 1
         have u1 : ((((w5.setCell ⟨w.heap.size, 0, none⟩ (.int .i64 W)).setCell ⟨w.heap.size, 1, none⟩ (.int .i64 H)).setCell ⟨w.heap.size, 2, none⟩ (.slice none 0 0)).setCell ⟨w.heap.size + 1, 0, none⟩ (.slice A5 (stdTab W H (1 + x)).length c5)).cell? ⟨w1.heap.size, 1, none⟩ = some (.int .i64 H) := Q8.out.cell 1
         have s2 : (((w5.setCell ⟨w.heap.size, 0, none⟩ (.int .i64 W)).setCell ⟨w.heap.size, 1, none⟩ (.int .i64 H)).setCell ⟨w.heap.size, 2, none⟩ (.slice none 0 0)).cell? ⟨w1.heap.size, 2, none⟩ = some (.slice none 0 0) := Q7.out.cell 2
         have u2 : ((((w5.setCell ⟨w.heap.size, 0, none⟩ (.int .i64 W)).setCell ⟨w.heap.size, 1, none⟩ (.int .i64 H)).setCell ⟨w.heap.size, 2, none⟩ (.slice none 0 0)).setCell ⟨w.heap.size + 1, 0, none⟩ (.slice A5 (stdTab W H (1 + x)).length c5)).cell? ⟨w1.heap.size, 2, none⟩ = some (.slice none 0 0) := Q8.out.cell 2
         have f0 := HM5.out.frozen 0; have f1 := HM5.out.frozen 1; have f2 := HM5.out.frozen 2; have f3 := HT5.out.frozen 0; clear hg5 o5 b5)
      | fail)
  all_goals
    have kk := ((((HM5.out.set_ 0 (.int .i64 W)).set_ 1 (.int .i64 H)).set_ 2 (.slice none 0 0)).far (p := ⟨w.heap.size + 1, 0, none⟩) (by show w.heap.size ≠ w.heap.size + 1; omega) (.slice A5 (stdTab W H (1 + x)).length c5))
    have tt := ((((HT5.out.far (p := ⟨w.heap.size, 0, none⟩) (by show w.heap.size + 1 ≠ w.heap.size; omega) (.int .i64 W)).far (p := ⟨w.heap.size, 1, none⟩) (by show w.heap.size + 1 ≠ w.heap.size; omega) (.int .i64 H)).far (p := ⟨w.heap.size, 2, none⟩) (by show w.heap.size + 1 ≠ w.heap.size; omega) (.slice none 0 0)).set_ 0 (.slice A5 (stdTab W H (1 + x)).length c5))
    have r0 := kk.cell 0
    have r1 := kk.cell 1
    have r2 := kk.cell 2
    have r3 := tt.cell 0
    simp at r0 r1 r2 r3
    have hs4 := HQ4.out.lt
    have O8 := Lib.hid (own_less (ownsRow_setCell_below (ownsRow_setCell_below (ownsRow_setCell_below (ownsRow_setCell_below HO5.out (a := ⟨w.heap.size, 0, none⟩) (by show w.heap.size < _; omega) (.int .i64 W)) (a := ⟨w.heap.size, 1, none⟩) (by show w.heap.size < _; omega) (.int .i64 H)) (a := ⟨w.heap.size, 2, none⟩) (by show w.heap.size < _; omega) (.slice none 0 0)) (a := ⟨w.heap.size + 1, 0, none⟩) (by show w.heap.size + 1 < _; omega) (.slice A5 (stdTab W H (1 + x)).length c5)) (b1 := w.heap.size) (by omega))
    have G8 := Lib.hid (gb_setCell (gb_setS HG5.out (i := 0) (j := 1) (k := 2) (b := w.heap.size) (Nat.le_refl _) (.int .i64 W) (.int .i64 H) (.slice none 0 0)) (p := ⟨w.heap.size + 1, 0, none⟩) (.inr (by show w.heap.size ≤ w.heap.size + 1; omega)) (.slice A5 (stdTab W H (1 + x)).length c5))
    have C8 := Lib.hid (cur_far (cur_far (cur_far (cur_far HC5.out (p := ⟨w.heap.size, 0, none⟩) (by show g < w.heap.size; omega) (.int .i64 W)) (p := ⟨w.heap.size, 1, none⟩) (by show g < w.heap.size; omega) (.int .i64 H)) (p := ⟨w.heap.size, 2, none⟩) (by show g < w.heap.size; omega) (.slice none 0 0)) (p := ⟨w.heap.size + 1, 0, none⟩) (by show g < w.heap.size + 1; omega) (.slice A5 (stdTab W H (1 + x)).length c5))
    clear kk tt
    go_wp2_with fail
    refine bodyPost_ret (v := .tuple #[.agg #[.int .i64 W, .int .i64 H, .slice none 0 0], .agg #[.slice A5 (stdTab W H (1 + x)).length c5]]) (by simp [results, Try.results53, go_sem, r0, r1, r2, r3]) rfl ⟨W, H, 1 + x, _, rfl, HOK.out, by have := HX.out; omega, by have := HX.out; omega, O8.out, C8.out, G8.out⟩
end Go.Proofs.Ytcmlnokfjbglaaa
end

section
namespace Go.Proofs.Ytcmlnokfjbglaaa
open Go.ChangeShapes Go.WideShapes Go.ChangeAt Go.RowKit
set_option linter.unusedVariables false

/-- A mesh without broken channels and a standard table are returned; only new blocks are written. -/
def DrawnTab (w : World) (e : Ending) (w' : World) : Prop := ∃ (W H r : Int) (v : Value), e = .returned (.tuple #[.agg #[.int .i64 W, .int .i64 H, .slice none 0 0], .agg #[v]]) ∧ okG W H = true ∧ 1 ≤ r ∧ r ≤ 4 ∧
  w'.ownsRow w.heap.size 3 1 v (stdTab W H r).length (intsV (stdTab W H r)) ∧ Below w.heap.size w w'

theorem drawTable (A : Option Addr) (n cap : Nat) (w : World) (hr : ByteRow w w.heap.size A n) (hn : n ≤ 1048576) :
    Calls Try.prog 13 #[.slice A n cap] w (DrawnTab w) := by
  have hg0 : w.grownBy ((w.alloc (.cells #[.int .i64 0, .int .i64 0, .slice none 0 0] 30)).alloc (.cells #[.slice none 0 0] 32)) none := gb_alloc (gb_alloc (gb_refl w none) _) _
  have hs0 : ((w.alloc (.cells #[.int .i64 0, .int .i64 0, .slice none 0 0] 30)).alloc (.cells #[.slice none 0 0] 32)).heap.size = w.heap.size + 2 := by rw [alloc_size, alloc_size]
  have hr0 : ByteRow ((w.alloc (.cells #[.int .i64 0, .int .i64 0, .slice none 0 0] 30)).alloc (.cells #[.slice none 0 0] 32)) ((w.alloc (.cells #[.int .i64 0, .int .i64 0, .slice none 0 0] 30)).alloc (.cells #[.slice none 0 0] 32)).heap.size A n :=
    (hr.keep fun p hp => World.cell?_of_block (hg0.block p.block hp (by simp))).more (by rw [hs0]; omega)
  have hbM : Blk ((w.alloc (.cells #[.int .i64 0, .int .i64 0, .slice none 0 0] 30)).alloc (.cells #[.slice none 0 0] 32)) w.heap.size 30 #[.int .i64 0, .int .i64 0, .slice none 0 0] := (Blk.new w _ _).alloc _
  have hbT : Blk ((w.alloc (.cells #[.int .i64 0, .int .i64 0, .slice none 0 0] 30)).alloc (.cells #[.slice none 0 0] 32)) (w.heap.size + 1) 32 #[.slice none 0 0] := by
    have := Blk.new (w.alloc (.cells #[.int .i64 0, .int .i64 0, .slice none 0 0] 30)) 32 #[.slice none 0 0]
    rwa [alloc_size] at this
  have HR := Lib.hid hr0
  have HBM := Lib.hid hbM
  have HBT := Lib.hid hbT
  have HG0 := Lib.hid hg0
  have HS0 := Lib.hid hs0
  clear hr hr0 hbM hbT hg0 hs0
  go_enter Try.func13, Try.ntmps13
  go_wp2_with fail
  refine (l01New _ _ _ _ HR.out hn).mono ?_
  rintro e w1 ⟨g, rfl, hg, hc1, hbel⟩
  rw [HS0.out] at hg hbel
  have hle := hbel.size
  rw [HS0.out] at hle
  have HM1 := Lib.hid (HBM.out.below hbel (by omega))
  have HT1 := Lib.hid (HBT.out.below hbel (by omega))
  have HA1 := Lib.hid ((gb_below_none HG0.out (Nat.le_refl _)).trans (hbel.mono (by omega)))
  have HG := Lib.hid hg
  have HLE := Lib.hid hle
  have hcl := hc1.lt
  clear hbel hg hle
  go_wp2_with fail
  refine (l04Case g _ hc1).mono ?_
  rintro e w2 ⟨W, H, r, v, rfl, hok, hr1, hr4, ho2, hc2, hg2⟩
  have HM2 := Lib.hid (HM1.out.grown hg2 (fun e => by cases e; have := HG.out; omega))
  have HT2 := Lib.hid (HT1.out.grown hg2 (fun e => by cases e; have := HG.out; omega))
  have HA2 := Lib.hid (HA1.out.trans (gb_below hg2 HA1.out.size (by have := HG.out; omega)))
  obtain ⟨A2, c2, rfl, _⟩ := own_form ho2
  have HO2 := Lib.hid ho2
  have HF := Lib.hid (And.intro hok (And.intro hr1 hr4))
  have m0 : w2.cell? ⟨w.heap.size, 0, none⟩ = some (.int .i64 0) := HM2.out.cell 0
  have m1 : w2.cell? ⟨w.heap.size, 1, none⟩ = some (.int .i64 0) := HM2.out.cell 1
  have m2 : w2.cell? ⟨w.heap.size, 2, none⟩ = some (.slice none 0 0) := HM2.out.cell 2
  have t0 : w2.cell? ⟨w.heap.size + 1, 0, none⟩ = some (.slice none 0 0) := HT2.out.cell 0
  have f0 := HM2.out.frozen 0
  have f1 := HM2.out.frozen 1
  have f2 := HM2.out.frozen 2
  have f3 := HT2.out.frozen 0
  clear hok hr1 hr4 ho2 hc1 hc2 hg2
  go_wp2_with fail
  have kk := ((((HM2.out.set_ 0 (.int .i64 W)).set_ 1 (.int .i64 H)).set_ 2 (.slice none 0 0)).far (p := ⟨w.heap.size + 1, 0, none⟩) (by show w.heap.size ≠ w.heap.size + 1; omega) (.slice A2 (stdTab W H r).length c2))
  have tt := ((((HT2.out.far (p := ⟨w.heap.size, 0, none⟩) (by show w.heap.size + 1 ≠ w.heap.size; omega) (.int .i64 W)).far (p := ⟨w.heap.size, 1, none⟩) (by show w.heap.size + 1 ≠ w.heap.size; omega) (.int .i64 H)).far (p := ⟨w.heap.size, 2, none⟩) (by show w.heap.size + 1 ≠ w.heap.size; omega) (.slice none 0 0)).set_ 0 (.slice A2 (stdTab W H r).length c2))
  have r0 := kk.cell 0
  have r1 := kk.cell 1
  have r2 := kk.cell 2
  have r3 := tt.cell 0
  simp at r0 r1 r2 r3
  have hle := HLE.out
  have O8 := Lib.hid (own_less (ownsRow_setCell_below (ownsRow_setCell_below (ownsRow_setCell_below (ownsRow_setCell_below HO2.out (a := ⟨w.heap.size, 0, none⟩) (by show w.heap.size < _; omega) (.int .i64 W)) (a := ⟨w.heap.size, 1, none⟩) (by show w.heap.size < _; omega) (.int .i64 H)) (a := ⟨w.heap.size, 2, none⟩) (by show w.heap.size < _; omega) (.slice none 0 0)) (a := ⟨w.heap.size + 1, 0, none⟩) (by show w.heap.size + 1 < _; omega) (.slice A2 (stdTab W H r).length c2)) (b1 := w.heap.size) (by omega))
  have G8 := Lib.hid (gb_below_none (gb_setCell (gb_setS (gb_of_below HA2.out none) (i := 0) (j := 1) (k := 2) (b := w.heap.size) (Nat.le_refl _) (.int .i64 W) (.int .i64 H) (.slice none 0 0)) (p := ⟨w.heap.size + 1, 0, none⟩) (.inr (by show w.heap.size ≤ w.heap.size + 1; omega)) (.slice A2 (stdTab W H r).length c2)) (Nat.le_refl _))
  clear kk tt
  refine bodyPost_ret (v := .tuple #[.agg #[.int .i64 W, .int .i64 H, .slice none 0 0], .agg #[.slice A2 (stdTab W H r).length c2]]) (by simp [results, Try.results13, go_sem, r0, r1, r2, r3]) rfl ⟨W, H, r, _, rfl, HF.out.1, HF.out.2.1, HF.out.2.2, O8.out, G8.out⟩
end Go.Proofs.Ytcmlnokfjbglaaa
end

section
namespace Go.Proofs.Ytcmlnokfjbglaaa
open Go.ChangeShapes Go.WideShapes Go.ChangeAt Go.RowKit
set_option linter.unusedVariables false

theorem lawsBig (A : Option Addr) (n cap : Nat) (w : World) :
    Calls Try.prog 11 #[.slice A n cap] w fun e w' => e = .returned (.bool (decide (1048576 < n))) ∧ w = w' := by
  go_enter Try.func11, Try.ntmps11
  go_wp2_with fail
  go_ret
  exact ⟨ret_bool (by simp; omega), rfl⟩
end Go.Proofs.Ytcmlnokfjbglaaa
end

section
namespace Go.Proofs.Ytcmlnokfjbglaaa
open Go.ChangeShapes Go.WideShapes Go.ChangeAt Go.RowKit
set_option linter.unusedVariables false

/-- 256 zeros. -/
def zerosX : List Int := List.replicate 256 0
theorem zerosX_length : zerosX.length = 256 := List.length_replicate
/-- The square after the first i pairs of k nodes were written. -/
def sqTo (k : Nat) (f : Nat → Int) : Nat → List Int
  | 0 => zerosX
  | i + 1 => (sqTo k f i).set (16 * (i / k) + i % k) (f i)
theorem sqTo_length (k : Nat) (f : Nat → Int) (i : Nat) : (sqTo k f i).length = 256 := by
  induction i with
  | zero => exact zerosX_length
  | succ i ih => rw [sqTo, List.length_set]; exact ih
theorem pair_div {a b k : Nat} (hb : b < k) : (a * k + b) / k = a := by
  rw [Nat.add_comm, Nat.add_mul_div_right _ _ (by omega), Nat.div_eq_of_lt hb]; omega
theorem pair_mod {a b k : Nat} (hb : b < k) : (a * k + b) % k = b := by
  rw [Nat.add_comm, Nat.add_mul_mod_self_right]; exact Nat.mod_eq_of_lt hb
theorem sqTo_at {k a b i : Nat} (f : Nat → Int) (hk : k ≤ 16) (ha : a < k) (hb : b < k) (h : a * k + b < i) : (sqTo k f i).getD (16 * a + b) 0 = f (a * k + b) := by
  induction i with
  | zero => omega
  | succ i ih =>
    rw [sqTo, List.getD_eq_getElem?_getD, List.getElem?_set]
    have hm : i % k < k := Nat.mod_lt _ (by omega)
    by_cases e : a * k + b = i
    · have e1 : i / k = a := by rw [← e]; exact pair_div hb
      have e2 : i % k = b := by rw [← e]; exact pair_mod hb
      rw [e1, e2, if_pos rfl, if_pos (by rw [sqTo_length]; omega), e]
      rfl
    · have hne : ¬ 16 * (i / k) + i % k = 16 * a + b := fun he => by
        have e1 : i / k = a := by omega
        have e2 : i % k = b := by omega
        have := Nat.div_add_mod i k
        rw [e1, e2, Nat.mul_comm] at this
        exact e this
      rw [if_neg hne, ← List.getD_eq_getElem?_getD]
      exact ih (by omega)
theorem sqTo_mem {k i : Nat} {f : Nat → Int} {x : Int} (h : x ∈ sqTo k f i) : x = 0 ∨ ∃ j, j < i ∧ x = f j := by
  induction i with
  | zero => exact .inl (List.eq_of_mem_replicate h)
  | succ i ih =>
    rcases List.mem_or_eq_of_mem_set h with h1 | h1
    · rcases ih h1 with h2 | ⟨j, hj, h2⟩
      · exact .inl h2
      · exact .inr ⟨j, by omega, h2⟩
    · exact .inr ⟨i, by omega, h1⟩

/-- The greatest of the first n numbers, at least 0. -/
def topTo (X : List Int) : Nat → Int
  | 0 => 0
  | n + 1 => max (topTo X n) (X.getD n 0)
/-- The greatest of the first i + 1 numbers. -/
def mxTo (R : List Int) : Nat → Int
  | 0 => R.getD 0 0
  | i + 1 => max (mxTo R i) (R.getD (i + 1) 0)
theorem top_row {X R : List Int} {s : Nat} (i : Nat) (h : ∀ j, j ≤ i → R.getD j 0 = X.getD (s + j) 0) : max (topTo X s) (mxTo R i) = topTo X (s + i + 1) := by
  induction i with
  | zero => rw [mxTo, h 0 (Nat.le_refl _)]; rfl
  | succ i ih =>
    rw [mxTo, ← Int.max_assoc, ih (fun j hj => h j (by omega)), h (i + 1) (Nat.le_refl _)]
    rfl
theorem topTo_le {X : List Int} {m : Int} (hm : 0 ≤ m) (h : ∀ x ∈ X, x ≤ m) (n : Nat) : topTo X n ≤ m := by
  induction n with
  | zero => exact hm
  | succ n ih =>
    rw [topTo]
    refine Int.max_le.2 ⟨ih, ?_⟩
    rw [List.getD_eq_getElem?_getD]
    cases hx : X[n]? with
    | none => exact hm
    | some x => exact h x (List.mem_of_getElem? hx)
theorem le_topTo {X : List Int} {i n : Nat} (h : i < n) : X.getD i 0 ≤ topTo X n := by
  induction n with
  | zero => omega
  | succ n ih =>
    rw [topTo]
    rcases Nat.lt_succ_iff_lt_or_eq.1 h with h1 | rfl
    · exact Int.le_trans (ih h1) (Int.le_max_left _ _)
    · exact Int.le_max_right _ _
theorem topTo_nonneg (X : List Int) (n : Nat) : 0 ≤ topTo X n := by
  induction n with
  | zero => exact Int.le_refl _
  | succ n ih => rw [topTo]; exact Int.le_trans ih (Int.le_max_left _ _)
/-- A list that is given at all its indices is between. -/
theorem mxTo_le {R : List Int} {m : Int} (h : ∀ j, R.getD j 0 ≤ m) (i : Nat) : mxTo R i ≤ m := by
  induction i with
  | zero => exact h 0
  | succ i ih => rw [mxTo]; exact Int.max_le.2 ⟨ih, h _⟩

/-- The port of an entry: -1 outside of the range 0 to 4. -/
def portP (p : Int) : Int := if p < 0 ∨ 4 < p then -1 else p
theorem portP_bounds (p : Int) : -1 ≤ portP p ∧ portP p ≤ 4 := by unfold portP; split <;> omega
theorem portP_in {p : Int} (h0 : 0 ≤ p) (h1 : p ≤ 4) : portP p = p := if_neg (by omega)
theorem portP_out {p : Int} (h : p < 0 ∨ 4 < p) : portP p = -1 := if_pos h
theorem portP_four {p : Int} : portP p = 4 ↔ p = 4 := by unfold portP; split <;> omega
theorem portP_in_of {p q : Int} (h : portP p = q) (h0 : 0 ≤ q) : p = q := by unfold portP at h; split at h <;> omega

section
variable {W H : Int} {L P : List Int}
/-- The nodes of a grid. -/
def cntN (W H : Int) : Nat := (countG W H).toNat
theorem cntN_int (W H : Int) : (cntN W H : Int) = countG W H := Int.toNat_of_nonneg (countG_le W H).1
theorem cntN_le (W H : Int) : cntN W H ≤ 16 := by have := countG_le W H; have := cntN_int W H; omega
/-- The table as a square of ports. -/
def portsX (W H : Int) (P : List Int) (i : Nat) : List Int := sqTo (cntN W H) (fun j => portP (P.getD j 0)) i
/-- The lengths of the walks as a square. -/
def lensX (W H : Int) (L P : List Int) (i : Nat) : List Int := sqTo (cntN W H) (fun j => (lenAt W H L P j : Int)) i
/-- The square holds the ports of the table. -/
def isPorts (W H : Int) (P X : List Int) : Prop := X.length = 256 ∧ ∀ a b : Nat, (a : Int) < countG W H → (b : Int) < countG W H → X.getD (16 * a + b) 0 = portP (tabG (countG W H) P a b)
theorem sq_lt {k a b : Nat} (ha : a < k) (hb : b < k) : a * k + b < k * k := by
  have : (a + 1) * k ≤ k * k := Nat.mul_le_mul_right _ (by omega)
  rw [Nat.add_mul, Nat.one_mul] at this
  omega
theorem portsX_is (hs : sizedG W H L P = true) : isPorts W H P (portsX W H P P.length) := by
  refine ⟨sqTo_length _ _ _, fun a b ha hb => ?_⟩
  have hk := cntN_int W H
  have hp := (sizedG_mesh hs).2
  have hpn : P.length = cntN W H * cntN W H := by rw [← hk] at hp; exact_mod_cast hp
  rw [portsX, sqTo_at _ (cntN_le W H) (by omega) (by omega) (by rw [hpn]; exact sq_lt (by omega) (by omega))]
  rw [tabG, ← hk, show ((a : Int) * (cntN W H : Int) + (b : Int)).toNat = a * cntN W H + b by rw [← Int.natCast_mul, ← Int.natCast_add, Int.toNat_natCast]]
theorem lensX_top : topTo (lensX W H L P (sqG W H)) 256 = (mostTo W H L P (sqG W H) : Int) := by
  have hk := cntN_le W H
  refine Int.le_antisymm (topTo_le (by omega) (fun x hx => ?_) _) ?_
  · rcases sqTo_mem hx with rfl | ⟨j, hj, rfl⟩
    · omega
    · exact_mod_cast mostTo_le hj
  · have h : ∀ i, i ≤ sqG W H → (mostTo W H L P i : Int) ≤ topTo (lensX W H L P (sqG W H)) 256 := fun i => by
      induction i with
      | zero => intro _; exact topTo_nonneg _ _
      | succ i ih =>
        intro hi
        rw [mostTo]
        have h1 := ih (by omega)
        have hlt : i < cntN W H * cntN W H := hi
        have hk0 : 0 < cntN W H := Nat.pos_of_ne_zero fun e => by rw [e] at hlt; omega
        have hd : i / cntN W H < cntN W H := Nat.div_lt_of_lt_mul hlt
        have hm : i % cntN W H < cntN W H := Nat.mod_lt _ hk0
        have he : i / cntN W H * cntN W H + i % cntN W H = i := by rw [Nat.mul_comm]; exact Nat.div_add_mod _ _
        have h2 := sqTo_at (fun j => (lenAt W H L P j : Int)) hk hd hm (i := sqG W H) (by omega)
        have h3 := le_topTo (X := lensX W H L P (sqG W H)) (i := 16 * (i / cntN W H) + i % cntN W H) (n := 256) (by omega)
        rw [lensX, h2, he] at h3
        rw [lensX] at h1 ⊢
        omega
    exact h _ (Nat.le_refl _)
/-- The number of a pair. -/
theorem lenAt_pair {a b : Nat} (hb : (b : Int) < countG W H) : lenAt W H L P (a * cntN W H + b) = (walkOf W H L P a b).length := by
  have hk := cntN_int W H
  have e1 : ((a * cntN W H + b : Nat) : Int) / countG W H = a := by
    rw [← hk, ← Int.natCast_ediv, pair_div (by omega)]
  have e2 : ((a * cntN W H + b : Nat) : Int) % countG W H = b := by
    rw [← hk, ← Int.natCast_emod, pair_mod (by omega)]
  rw [lenAt, e1, e2]

/-- The walk ends. -/
def endsG (W H : Int) (L P : List Int) (a b : Int) : Bool := (walkF W H L P b ((countG W H).toNat + 1) a).isSome
theorem walkF_never {to : Int} (h : tabG (countG W H) P to to ≠ 4) : ∀ (f : Nat) (a : Int), walkF W H L P to f a = none
  | 0, _ => rfl
  | f + 1, a => by
    rw [walkF]
    split
    · rename_i h4
      rw [if_neg (fun e => by subst e; exact h h4)]
    · split
      · rw [walkF_never h f]; rfl
      · rfl
theorem ends_entry (a b : Int) : endsG W H L P a b = entryG W H L P a b := by
  by_cases e : a = b
  · subst e
    rw [entry_same, endsG]
    by_cases h4 : tabG (countG W H) P a a = 4
    · rw [walkF_end h4 rfl, h4]; rfl
    · rw [walkF_never h4]; simp [h4]
  · rw [entry_two e, endsG, walkOf]
    by_cases h4 : tabG (countG W H) P a b = 4
    · rw [walkF_lost h4 e]; rfl
    · cases hs : stepsG W H L a (tabG (countG W H) P a b) with
      | false => rw [walkF_bad rfl h4 hs]; rfl
      | true =>
        rw [walkF_go rfl h4 hs]
        cases walkF W H L P b (countG W H).toNat (nextG W H a (tabG (countG W H) P a b)) <;> simp
theorem walkOf_same (a : Int) : walkOf W H L P a a = [] := by
  rw [walkOf]
  by_cases h4 : tabG (countG W H) P a a = 4
  · rw [walkF_end h4 rfl]; rfl
  · rw [walkF_never h4]; rfl
theorem walkG_ask {a b : Int} (h : askG W H L P a b = true) : walkG W H L P a b = walkOf W H L P a b := by
  by_cases e : a = b
  · subst e; rw [walkOf_same, walkG, if_neg (by simp)]
  · rw [walkG, if_pos ⟨h, e⟩]
theorem walkG_no {a b : Int} (h : askG W H L P a b = false) : walkG W H L P a b = [] := by rw [walkG, if_neg (by simp [h])]
theorem portAtG_ask {a b : Int} (h : askG W H L P a b = true) : portAtG W H L P a b = portP (tabG (countG W H) P a b) := by
  unfold portAtG portP
  by_cases h2 : 0 ≤ tabG (countG W H) P a b ∧ tabG (countG W H) P a b ≤ 4
  · rw [if_pos ⟨h, h2⟩, if_neg (by omega)]
  · rw [if_neg (fun e => h2 e.2), if_pos (by omega)]
theorem portAtG_no {a b : Int} (h : askG W H L P a b = false) : portAtG W H L P a b = -1 := by rw [portAtG, if_neg (by simp [h])]
/-- Whether the rest of a walk ends. -/
def restE (W H : Int) (L P : List Int) (to : Int) (f : Nat) (a : Int) : Bool := (walkF W H L P to f a).isSome
theorem restE_start (a b : Int) : restE W H L P b ((countG W H).toNat + 1) a = endsG W H L P a b := rfl
theorem restE_end {to a : Int} {f : Nat} (h : tabG (countG W H) P a to = 4) (he : a = to) : restE W H L P to (f + 1) a = true := by rw [restE, walkF_end h he]; rfl
theorem restE_lost {to a : Int} {f : Nat} (h : tabG (countG W H) P a to = 4) (he : a ≠ to) : restE W H L P to (f + 1) a = false := by rw [restE, walkF_lost h he]; rfl
theorem restE_bad {to a p : Int} {f : Nat} (h : tabG (countG W H) P a to = p) (h4 : p ≠ 4) (hs : stepsG W H L a p = false) : restE W H L P to (f + 1) a = false := by rw [restE, walkF_bad h h4 hs]; rfl
theorem restE_go {to a p : Int} {f : Nat} (h : tabG (countG W H) P a to = p) (h4 : p ≠ 4) (hs : stepsG W H L a p = true) : restE W H L P to (f + 1) a = restE W H L P to f (nextG W H a p) := by
  rw [restE, walkF_go h h4 hs, restE]
  cases walkF W H L P to f (nextG W H a p) <;> rfl
end
end Go.Proofs.Ytcmlnokfjbglaaa
end

section
namespace Go.Proofs.Ytcmlnokfjbglaaa
open Go.ChangeShapes Go.WideShapes Go.ChangeAt Go.RowKit
set_option linter.unusedVariables false

theorem boxi_blk {w w1 : World} {T : TypeId} {cs : Array Value} (h : (w.alloc (.cells cs T)).grownBy w1 none) : Blk w1 w.heap.size T cs := (Blk.new w T cs).grown h (by simp)
theorem boxi_gb {w w1 : World} {o : Obj} (h : (w.alloc o).grownBy w1 none) : w.grownBy w1 none := gb_trans (gb_alloc (gb_refl _ _) _) h

theorem implGridOk (W H : Int) (w : World) :
    Calls Try.prog 93 #[.agg #[.int .i64 W, .int .i64 H]] w (RetB (okG W H) w) := by
  by_cases h1 : W ≥ 1 <;> by_cases h2 : W ≤ 4 <;> by_cases h3 : H ≥ 1 <;> by_cases h4 : H ≤ 4
  all_goals first | (exfalso; omega) | skip
  all_goals
    go_enter Try.func93, Try.ntmps93
    go_wp2_with fail
    go_ret
    exact ⟨ret_bool (by simp [okG] <;> omega), gb_alloc (gb_refl _ _) _⟩

theorem implNodeCount (W H : Int) (w : World) :
    Calls Try.prog 85 #[.agg #[.int .i64 W, .int .i64 H]] w (RetI (countG W H) none w) := by
  cases hok : okG W H with
  | true =>
    obtain ⟨hW, hH⟩ := okG_cases hok
    have hm : wrap64 (W * H) = countG W H := by
      simp only [countG, hok, if_true]
      rcases hW with rfl | rfl | rfl | rfl <;> rcases hH with rfl | rfl | rfl | rfl <;> exact IntWalk.wrap64_in _ (by omega)
    have Hm := Lib.hid hm
    clear hW hH hm
    go_enter Try.func85, Try.ntmps85
    go_wp2_with fail
    refine (implGridOk W H _).mono ?_
    rintro e w1 ⟨rfl, hg⟩
    have hb := boxi_blk hg
    have c0 : w1.cell? ⟨w.heap.size, 0, none⟩ = some (.int .i64 W) := hb.cell 0
    have c1 : w1.cell? ⟨w.heap.size, 1, none⟩ = some (.int .i64 H) := hb.cell 1
    have Hg := Lib.hid hg
    clear hg hb
    rw [hok]
    go_wp2_with fail
    go_ret
    exact ⟨ret_int64 (by rw [← Hm.out]), boxi_gb Hg.out⟩
  | false =>
    go_enter Try.func85, Try.ntmps85
    go_wp2_with fail
    refine (implGridOk W H _).mono ?_
    rintro e w1 ⟨rfl, hg⟩
    rw [hok]
    go_wp2_with fail
    go_ret
    exact ⟨ret_int64 (by simp [countG, hok]), boxi_gb hg⟩

theorem implHasNode (W H n : Int) (w : World) :
    Calls Try.prog 138 #[.agg #[.int .i64 W, .int .i64 H], .int .i64 n] w (RetB (hasG W H n) w) := by
  obtain ⟨k, hk⟩ : ∃ k, countG W H = k := ⟨_, rfl⟩
  by_cases h0 : n ≥ 0
  · by_cases h1 : n < k
    all_goals
      go_enter Try.func138, Try.ntmps138
      go_wp2_with fail
      refine (implNodeCount W H _).mono ?_
      rintro e w1 ⟨rfl, hg⟩
      rw [hk]
      go_wp2_with fail
      go_ret
      exact ⟨ret_bool (by simp [hasG, hk]; omega), boxi_gb hg⟩
  · go_enter Try.func138, Try.ntmps138
    go_wp2_with fail
    go_ret
    exact ⟨ret_bool (by simp [hasG, hk]; omega), gb_alloc (gb_refl _ _) _⟩

def hasPlaceG (W H x y : Int) : Bool := decide (okG W H = true ∧ 0 ≤ x ∧ x < W ∧ 0 ≤ y ∧ y < H)

theorem implHasPlace (W H x y : Int) (w : World) :
    Calls Try.prog 146 #[.agg #[.int .i64 W, .int .i64 H], .int .i64 x, .int .i64 y] w (RetB (hasPlaceG W H x y) w) := by
  cases hok : okG W H with
  | true =>
    obtain ⟨p1, p2, p3, p4⟩ := okG_iff.1 hok
    by_cases h1 : x ≥ 0 <;> by_cases h2 : x < W <;> by_cases h3 : y ≥ 0 <;> by_cases h4 : y < H
    all_goals first | (exfalso; omega) | skip
    all_goals
      go_enter Try.func146, Try.ntmps146
      go_wp2_with fail
      refine (implGridOk W H _).mono ?_
      rintro e w1 ⟨rfl, hg⟩
      have hb := boxi_blk hg
      have c0 := hb.cell 0
      have c1 := hb.cell 1
      have Hg := Lib.hid hg
      clear hg hb
      simp at c0 c1
      rw [hok]
      go_wp2_with fail
      go_ret
      exact ⟨ret_bool (by
        unfold hasPlaceG
        first
        | exact (decide_eq_true ⟨hok, by omega⟩).symm
        | exact (decide_eq_false (fun h => by have := h.2; omega)).symm
        | exact decide_eq_decide.2 ⟨fun h => by omega, fun h => h.2.2.2.2⟩), boxi_gb Hg.out⟩
  | false =>
    go_enter Try.func146, Try.ntmps146
    go_wp2_with fail
    refine (implGridOk W H _).mono ?_
    rintro e w1 ⟨rfl, hg⟩
    rw [hok]
    go_wp2_with fail
    go_ret
    exact ⟨ret_bool (by simp [hasPlaceG, hok]), boxi_gb hg⟩

theorem implNodeAt (W H x y : Int) (w : World) :
    Calls Try.prog 140 #[.agg #[.int .i64 W, .int .i64 H], .int .i64 x, .int .i64 y] w (RetI (atG W H x y) none w) := by
  cases hp : hasPlaceG W H x y with
  | true =>
    obtain ⟨hok, hx0, hx1, hy0, hy1⟩ : okG W H = true ∧ 0 ≤ x ∧ x < W ∧ 0 ≤ y ∧ y < H := by simpa [hasPlaceG] using hp
    obtain ⟨hW, hH⟩ := okG_cases hok
    rcases hW with rfl | rfl | rfl | rfl
    all_goals
      go_enter Try.func140, Try.ntmps140
      go_wp2_with fail
      refine (implHasPlace _ H x y _).mono ?_
      rintro e w1 ⟨rfl, hg⟩
      have hb := boxi_blk hg
      have c0 := hb.cell 0
      have Hg := Lib.hid hg
      clear hg hb
      simp at c0
      rw [hp]
      go_wp2_with fail
      go_ret
      exact ⟨ret_int64 (by unfold atG; rw [if_pos ⟨hok, by omega⟩] <;> omega), boxi_gb Hg.out⟩
  | false =>
    go_enter Try.func140, Try.ntmps140
    go_wp2_with fail
    refine (implHasPlace W H x y _).mono ?_
    rintro e w1 ⟨rfl, hg⟩
    rw [hp]
    go_wp2_with fail
    go_ret
    exact ⟨ret_int64 (by unfold atG; rw [if_neg (by simpa [hasPlaceG] using hp)]), boxi_gb hg⟩
end Go.Proofs.Ytcmlnokfjbglaaa
end

section
namespace Go.Proofs.Ytcmlnokfjbglaaa
open Go.ChangeShapes Go.WideShapes Go.ChangeAt Go.RowKit
set_option linter.unusedVariables false

/-- A mesh as the cells of a block. -/
def meshC (W H : Int) (A : Option Addr) (n cap : Nat) : Array Value := #[.int .i64 W, .int .i64 H, .slice A n cap]
def MeshAt (W H : Int) (L : List Int) (A : Option Addr) (n cap : Nat) (w : World) (k : Nat) (wr : World) : Prop :=
  goodTo W H L k ∧ (w.alloc (.cells (meshC W H A n cap) 30)).grownBy wr none
end Go.Proofs.Ytcmlnokfjbglaaa
end

section
namespace Go.Proofs.Ytcmlnokfjbglaaa
open Go.ChangeShapes Go.WideShapes Go.ChangeAt Go.RowKit
set_option linter.unusedVariables false

/-- Numbers as the cells of a block. -/
def cellsX (X : List Int) : Array Value := (intsV X).toArray
theorem cellsX_size (X : List Int) : (cellsX X).size = X.length := by simp [cellsX, intsV_length]
theorem cellsX_at {X : List Int} {i : Nat} {x : Int} (hi : i < X.length) (h : X.getD i 0 = x) : (cellsX X)[i]? = some (.int .i64 x) := by
  rw [List.getD_eq_getElem?_getD, List.getElem?_eq_getElem hi] at h
  simp only [Option.getD_some] at h
  simp [cellsX, intsV, List.getElem?_eq_getElem hi, h]
theorem cellsX_set (X : List Int) (i : Nat) (x : Int) : (cellsX X).setIfInBounds i (.int .i64 x) = cellsX (X.set i x) := by
  simp [cellsX, intsV_set]
theorem cellsX_one (X : List Int) : (cellsX X).all (·.oneCell') = true := by
  rw [Array.all_eq_true_iff_forall_mem]
  intro v hv
  simp only [cellsX, intsV, List.mem_toArray, List.mem_map] at hv
  obtain ⟨x, _, rfl⟩ := hv
  rfl
theorem zero_cells : Try.zeroCells116 = cellsX zerosX := by kernel_rfl
theorem square_info : (Try.prog.info? 116).map (·.size) = some 256 := by kernel_rfl

section
variable {w : World} {g : Nat} {X Y : List Int}
theorem gb_setRow {w : World} {g : Nat} {old cs : Array Value} {t : TypeId} (h : Blk w g t old) : Blk (w.setRow g cs) g t cs ∧ w.grownBy (w.setRow g cs) (some g) := by
  refine ⟨setRow_heap w g old cs t (0, 0) h, rfl, rfl, rfl, ?_, fun i hi hne => ?_⟩
  · simp [World.setRow]
  · have hne' : g ≠ i := fun e => hne (by rw [e])
    simp [World.setRow, Array.getElem?_modify, hne']
theorem load_square (hb : Blk w g 116 (cellsX X)) (hl : X.length = 256) : (loadVar 116 ⟨g, 0, none⟩).run Try.prog w = .ok (.agg (cellsX X)) w :=
  run_loadVar_row w g _ _ (cellsX X) (0, 0) _ hb Try.underlying116 rfl (by rw [cellsX_size, hl]; exact square_info)
theorem store_square (hb : Blk w g 116 (cellsX X)) (hl : X.length = 256) (hm : Y.length = 256) : (storeVar 116 ⟨g, 0, none⟩ (.agg (cellsX Y))).run Try.prog w = .ok () (w.setRow g (cellsX Y)) :=
  run_storeVar_row w g _ _ (cellsX X) (cellsX Y) hb (by rw [cellsX_size, hm]; exact square_info) (by rw [cellsX_size, cellsX_size, hl, hm]) (cellsX_one Y)
end

theorem wpList_loadX {ops : Array Oper} {rest : List Oper} {op : Oper} {a : Act} {w : World} {Q : Exit → Act → World → Prop} (hgd : op.guard = none) (x : Operand) (ho : op.op = .load 116 x)
    (g : Nat) (hx : a.eval x = .pointer (some ⟨g, 0, none⟩)) (X : List Int) (hb : Blk w g 116 (cellsX X)) (hl : X.length = 256)
    (h : wpList Try.prog ops Q rest (a.put op.dst (.agg (cellsX X))) w) : wpList Try.prog ops Q (op :: rest) a w :=
  wpList_plain hgd fun _ hK => by
    unfold Oper.wp execOp
    simp only [ho, hx, Instr.loadAt, Instr.sureAddr, Sem.run_bind, Sem.run_pure, Result.andThen_ok, load_square hb hl]
    exact hK _ _ h
theorem wpList_storeX {ops : Array Oper} {rest : List Oper} {op : Oper} {a : Act} {w : World} {Q : Exit → Act → World → Prop} (hgd : op.guard = none) (x y : Operand) (ho : op.op = .store 116 x y)
    (g : Nat) (X Y : List Int) (hx : a.eval x = .pointer (some ⟨g, 0, none⟩)) (hy : a.eval y = .agg (cellsX Y)) (hb : Blk w g 116 (cellsX X)) (hl : X.length = 256) (hm : Y.length = 256)
    (h : ∀ w', Blk w' g 116 (cellsX Y) → w.grownBy w' (some g) → wpList Try.prog ops Q rest (a.put op.dst undef) w') : wpList Try.prog ops Q (op :: rest) a w :=
  wpList_plain hgd fun _ hK => by
    unfold Oper.wp execOp
    simp only [ho, hx, hy, Instr.storeAt, Instr.sureAddr, Sem.run_bind, Sem.run_pure, Result.andThen_ok, store_square hb hl hm]
    exact hK _ _ (h _ (gb_setRow hb).1 (gb_setRow hb).2)

/-- What is written lies in a block of the call's own. -/
theorem gb_new {a b c : World} {g : Nat} (h : a.grownBy b none) (k : b.grownBy c (some g)) (hg : a.heap.size ≤ g) : a.grownBy c none :=
  ⟨k.os.trans h.os, k.tape.trans h.tape, k.output.trans h.output, Nat.le_trans h.size k.size, fun i hi hne => (k.block i (Nat.lt_of_lt_of_le hi h.size) (fun e => by cases e; omega)).trans (h.block i hi hne)⟩

/-- A square and whether there is one. -/
def RetX (X : List Int) (b : Bool) (w : World) (e : Ending) (w' : World) : Prop := e = .returned (.tuple #[.agg (cellsX X), .bool b]) ∧ w.grownBy w' none
end Go.Proofs.Ytcmlnokfjbglaaa
end

section
namespace Go.Proofs.Ytcmlnokfjbglaaa
open Go.ChangeShapes Go.WideShapes Go.ChangeAt Go.RowKit
set_option linter.unusedVariables false

/-- A node's column and row. -/
theorem implPlace (W H n x y : Int) (hh : hasG W H n = true) (hx : n % W = x) (hy : n / W = y) (w : World) :
    Calls Try.prog 139 #[.agg #[.int .i64 W, .int .i64 H], .int .i64 n] w fun e w' => e = .returned (.tuple #[.int .i64 x, .int .i64 y]) ∧ w.grownBy w' none := by
  obtain ⟨hW, hH⟩ := okG_cases (hasG_ok hh).1
  obtain ⟨h0, h1⟩ := hasG_le hh
  have hq := row_wrap h0 h1 hW
  have da : n.tdiv W = y := by rw [Int.tdiv_eq_ediv_of_nonneg h0]; exact hy
  have ta : n.tmod W = x := by rw [Int.tmod_eq_emod_of_nonneg h0]; exact hx
  obtain ⟨a0, a1, a2, a3, a4⟩ := place_of hh
  rw [hx] at a0 a1
  rw [hy] at a2 a3
  have hWn : W ≠ 0 := by omega
  have hW1 : 1 ≤ W := by omega
  have hW2 : W ≤ 4 := by omega
  have hH2 : H ≤ 4 := by omega
  clear hW hH hx hy hq a4 h0
  go_enter Try.func139, Try.ntmps139
  go_wp2_with fail
  go_quiet (fail)
  go_wp2_with fail
  go_ret2
  exact ⟨rfl, gb_drewN (gb_alloc (gb_refl _ _) _) _⟩

theorem gb_undrew {a b : World} {row : Option Nat} (h : a.drew.grownBy b row) : a.grownBy b row := ⟨h.os, h.tape, h.output, h.size, h.block⟩
end Go.Proofs.Ytcmlnokfjbglaaa
end

section
namespace Go.Proofs.Ytcmlnokfjbglaaa
open Go.ChangeShapes Go.WideShapes Go.ChangeAt Go.RowKit
set_option linter.unusedVariables false

theorem implNodeAtV (W H x y n : Int) (h : atG W H x y = n) (w : World) :
    Calls Try.prog 140 #[.agg #[.int .i64 W, .int .i64 H], .int .i64 x, .int .i64 y] w (RetI n none w) := h ▸ implNodeAt W H x y w

theorem implNextNode (W H n p : Int) (w : World) :
    Calls Try.prog 124 #[.agg #[.int .i64 W, .int .i64 H], .int .i64 n, .int .i64 p] w (RetI (nextG W H n p) none w) := by
  cases hh : hasG W H n with
  | true =>
    obtain ⟨hW, hH⟩ := okG_cases (hasG_ok hh).1
    obtain ⟨a0, a1, a2, a3, a4⟩ := place_of hh
    have hN : nextG W H n p = (if p = 0 then atG W H (n % W) (n / W - 1) else if p = 1 then atG W H (n % W + 1) (n / W) else if p = 2 then atG W H (n % W) (n / W + 1) else if p = 3 then atG W H (n % W - 1) (n / W) else if p = 4 then n else -1) := by simp [nextG, hh]
    obtain ⟨x, hx⟩ : ∃ x, n % W = x := ⟨_, rfl⟩
    obtain ⟨y, hy⟩ : ∃ y, n / W = y := ⟨_, rfl⟩
    rw [hx, hy] at hN
    rw [hx] at a0 a1
    rw [hy] at a2 a3
    have x1 : x ≤ 4 := by omega
    have y1 : y ≤ 4 := by omega
    obtain ⟨r, hr⟩ : ∃ r, nextG W H n p = r := ⟨_, rfl⟩
    rw [hr] at hN ⊢
    have HP := Lib.hid (fun w => implPlace W H n x y hh hx hy w)
    clear a1 a3 a4 hW hH hr hx hy
    by_cases p0 : p = 0
    · subst p0
      simp at hN
      go_enter Try.func124, Try.ntmps124
      go_wp2_with fail
      refine (implHasNode W H n _).mono ?_
      rintro e w1 ⟨rfl, hg⟩
      have hb := boxi_blk hg
      have c0 := hb.cell 0
      have c1 := hb.cell 1
      have Hg := Lib.hid (boxi_gb hg)
      clear hg hb
      simp at c0 c1
      rw [hh]
      go_wp2_with fail
      refine (HP.out _).mono ?_
      rintro e w2 ⟨rfl, hg2⟩
      have d0 := hg2.cell c0 (by simp)
      have d1 := hg2.cell c1 (by simp)
      have Hg2 := Lib.hid (gb_trans Hg.out hg2)
      clear hg2 c0 c1
      go_wp2_with fail
      refine (implNodeAtV W H x (y - 1) r hN.symm _).mono ?_
      rintro e w3 ⟨rfl, hg3⟩
      have Hg3 := Lib.hid (gb_trans Hg2.out hg3)
      clear hg3
      go_wp2_with fail
      go_ret
      exact ⟨ret_int64 hN.symm, Hg3.out⟩
    by_cases p1 : p = 1
    · subst p1
      simp at hN
      go_enter Try.func124, Try.ntmps124
      go_wp2_with fail
      refine (implHasNode W H n _).mono ?_
      rintro e w1 ⟨rfl, hg⟩
      have hb := boxi_blk hg
      have c0 := hb.cell 0
      have c1 := hb.cell 1
      have Hg := Lib.hid (boxi_gb hg)
      clear hg hb
      simp at c0 c1
      rw [hh]
      go_wp2_with fail
      refine (HP.out _).mono ?_
      rintro e w2 ⟨rfl, hg2⟩
      have d0 := hg2.cell c0 (by simp)
      have d1 := hg2.cell c1 (by simp)
      have Hg2 := Lib.hid (gb_trans Hg.out hg2)
      clear hg2 c0 c1
      go_wp2_with fail
      refine (implNodeAtV W H (x + 1) y r hN.symm _).mono ?_
      rintro e w3 ⟨rfl, hg3⟩
      have Hg3 := Lib.hid (gb_trans Hg2.out hg3)
      clear hg3
      go_wp2_with fail
      go_ret
      exact ⟨ret_int64 hN.symm, Hg3.out⟩
    by_cases p2 : p = 2
    · subst p2
      simp at hN
      go_enter Try.func124, Try.ntmps124
      go_wp2_with fail
      refine (implHasNode W H n _).mono ?_
      rintro e w1 ⟨rfl, hg⟩
      have hb := boxi_blk hg
      have c0 := hb.cell 0
      have c1 := hb.cell 1
      have Hg := Lib.hid (boxi_gb hg)
      clear hg hb
      simp at c0 c1
      rw [hh]
      go_wp2_with fail
      refine (HP.out _).mono ?_
      rintro e w2 ⟨rfl, hg2⟩
      have d0 := hg2.cell c0 (by simp)
      have d1 := hg2.cell c1 (by simp)
      have Hg2 := Lib.hid (gb_trans Hg.out hg2)
      clear hg2 c0 c1
      go_wp2_with fail
      refine (implNodeAtV W H x (y + 1) r hN.symm _).mono ?_
      rintro e w3 ⟨rfl, hg3⟩
      have Hg3 := Lib.hid (gb_trans Hg2.out hg3)
      clear hg3
      go_wp2_with fail
      go_ret
      exact ⟨ret_int64 hN.symm, Hg3.out⟩
    by_cases p3 : p = 3
    · subst p3
      simp at hN
      go_enter Try.func124, Try.ntmps124
      go_wp2_with fail
      refine (implHasNode W H n _).mono ?_
      rintro e w1 ⟨rfl, hg⟩
      have hb := boxi_blk hg
      have c0 := hb.cell 0
      have c1 := hb.cell 1
      have Hg := Lib.hid (boxi_gb hg)
      clear hg hb
      simp at c0 c1
      rw [hh]
      go_wp2_with fail
      refine (HP.out _).mono ?_
      rintro e w2 ⟨rfl, hg2⟩
      have d0 := hg2.cell c0 (by simp)
      have d1 := hg2.cell c1 (by simp)
      have Hg2 := Lib.hid (gb_trans Hg.out hg2)
      clear hg2 c0 c1
      go_wp2_with fail
      refine (implNodeAtV W H (x - 1) y r hN.symm _).mono ?_
      rintro e w3 ⟨rfl, hg3⟩
      have Hg3 := Lib.hid (gb_trans Hg2.out hg3)
      clear hg3
      go_wp2_with fail
      go_ret
      exact ⟨ret_int64 hN.symm, Hg3.out⟩
    by_cases p4 : p = 4
    · subst p4
      simp at hN
      go_enter Try.func124, Try.ntmps124
      go_wp2_with fail
      refine (implHasNode W H n _).mono ?_
      rintro e w1 ⟨rfl, hg⟩
      have hb := boxi_blk hg
      have c0 := hb.cell 0
      have c1 := hb.cell 1
      have Hg := Lib.hid (boxi_gb hg)
      clear hg hb
      simp at c0 c1
      rw [hh]
      go_wp2_with fail
      refine (HP.out _).mono ?_
      rintro e w2 ⟨rfl, hg2⟩
      have d0 := hg2.cell c0 (by simp)
      have d1 := hg2.cell c1 (by simp)
      have Hg2 := Lib.hid (gb_trans Hg.out hg2)
      clear hg2 c0 c1
      go_wp2_with fail
      go_ret
      exact ⟨ret_int64 hN.symm, Hg2.out⟩
    simp [p0, p1, p2, p3, p4] at hN
    have q0 : (p == 0) = false := by simpa using p0
    have q1 : (p == 1) = false := by simpa using p1
    have q2 : (p == 2) = false := by simpa using p2
    have q3 : (p == 3) = false := by simpa using p3
    have q4 : (p == 4) = false := by simpa using p4
    clear p0 p1 p2 p3 p4
    go_enter Try.func124, Try.ntmps124
    go_wp2_with fail
    refine (implHasNode W H n _).mono ?_
    rintro e w1 ⟨rfl, hg⟩
    have hb := boxi_blk hg
    have c0 := hb.cell 0
    have c1 := hb.cell 1
    have Hg := Lib.hid (boxi_gb hg)
    clear hg hb
    simp at c0 c1
    rw [hh]
    go_wp2_with fail
    refine (HP.out _).mono ?_
    rintro e w2 ⟨rfl, hg2⟩
    have d0 := hg2.cell c0 (by simp)
    have d1 := hg2.cell c1 (by simp)
    have Hg2 := Lib.hid (gb_trans Hg.out hg2)
    clear hg2 c0 c1
    go_wp2_with fail
    go_ret
    exact ⟨ret_int64 hN.symm, Hg2.out⟩
  | false =>
    go_enter Try.func124, Try.ntmps124
    go_wp2_with fail
    refine (implHasNode W H n _).mono ?_
    rintro e w1 ⟨rfl, hg⟩
    rw [hh]
    go_wp2_with fail
    go_ret
    exact ⟨ret_int64 (by simp [nextG, hh]), boxi_gb hg⟩

theorem implNextNodeV (W H n p r : Int) (h : nextG W H n p = r) (w : World) :
    Calls Try.prog 124 #[.agg #[.int .i64 W, .int .i64 H], .int .i64 n, .int .i64 p] w (RetI r none w) := h ▸ implNextNode W H n p w

/-- Where a channel leads, by the rounding of the language. -/
def endG (W H c : Int) : Int := nextG W H (c.tdiv 4) (c.tmod 4)
theorem leads_end (W H c : Int) : leadsG W H c = decide (0 ≤ endG W H c) := by
  unfold leadsG endG
  by_cases h0 : 0 ≤ c
  · rw [Int.tdiv_eq_ediv_of_nonneg h0, Int.tmod_eq_emod_of_nonneg h0]
    refine decide_eq_decide.2 ⟨fun h => h.2.2, fun h => ⟨h0, ?_, h⟩⟩
    cases hh : hasG W H (c / 4) with
    | true => have := (hasG_iff.1 hh).2; omega
    | false => simp [nextG, hh] at h
  · refine decide_eq_decide.2 ⟨fun h => absurd h.1 h0, fun h => ?_⟩
    exfalso
    cases hh : hasG W H (c.tdiv 4) with
    | true =>
      have h1 := (hasG_iff.1 hh).1
      have h2 : c.tmod 4 < 0 := by
        have e := Int.mul_tdiv_add_tmod c 4
        omega
      rw [nextG_has (by omega)] at h
      omega
    | false => simp [nextG, hh] at h
theorem implEnd (W H c r : Int) (hc : (Lit.int .i64 c).wf = true) (hr : endG W H c = r) (w : World) :
    Calls Try.prog 108 #[.agg #[.int .i64 W, .int .i64 H], .int .i64 c] w (RetI r none w) := by
  have hb := bounds_i64 hc
  have hm : c.tmod 4 < 4 ∧ -4 < c.tmod 4 := ⟨Int.tmod_lt_of_pos _ (by omega), by have := Int.lt_tmod_of_pos c (b := 4) (by omega); omega⟩
  have hq : wrap64 (c.tdiv 4) = c.tdiv 4 := IntWalk.wrap64_in _ (by have := Int.mul_tdiv_add_tmod c 4; omega)
  clear hm
  have HC := Lib.hid (fun w => implNextNodeV W H (c.tdiv 4) (c.tmod 4) r hr w)
  clear hc hr hb
  go_enter Try.func108, Try.ntmps108
  go_wp2_with fail
  simp only [hq]
  refine (HC.out _).mono ?_
  rintro e w1 ⟨rfl, hg⟩
  have Hg := Lib.hid (boxi_gb hg)
  clear hg
  go_wp2_with fail
  go_ret
  exact ⟨rfl, Hg.out⟩
end Go.Proofs.Ytcmlnokfjbglaaa
end

section
namespace Go.Proofs.Ytcmlnokfjbglaaa
open Go.ChangeShapes Go.WideShapes Go.ChangeAt Go.RowKit
set_option linter.unusedVariables false

/-- The numbers of L have 64 bits. -/
def WfL (L : List Int) : Prop := ∀ x ∈ L, (Lit.int .i64 x).wf = true
theorem WfL.get {L : List Int} (h : WfL L) {k : Nat} {x : Int} (hk : k < L.length) (hx : L.getD k 0 = x) : (Lit.int .i64 x).wf = true := by
  rw [List.getD_eq_getElem?_getD, List.getElem?_eq_getElem hk] at hx
  simp only [Option.getD_some] at hx
  exact h x (hx ▸ List.getElem_mem hk)
theorem leads_wf {W H c : Int} (h : leadsG W H c = true) : (Lit.int .i64 c).wf = true := by
  have h1 : 0 ≤ c ∧ c < 4 * countG W H ∧ 0 ≤ nextG W H (c / 4) (c % 4) := by simpa [leadsG] using h
  have h2 := countG_le W H
  exact WalkArith.wf_i64 (by omega)
theorem mesh_wf {W H : Int} {L : List Int} (h : meshG W H L = true) : WfL L := fun x hx => by
  obtain ⟨j, hj, rfl⟩ := List.getElem_of_mem hx
  have h1 := (meshG_ok h).2 j hj
  simp only [goodAt, Bool.and_eq_true] at h1
  refine leads_wf (W := W) (H := H) ?_
  have := h1.1
  rw [List.getD_eq_getElem?_getD, List.getElem?_eq_getElem hj] at this
  exact this
end Go.Proofs.Ytcmlnokfjbglaaa
end

section
namespace Go.Proofs.Ytcmlnokfjbglaaa
open Go.ChangeShapes Go.WideShapes Go.ChangeAt Go.RowKit
set_option linter.unusedVariables false

theorem implMeshOk (W H : Int) (A : Option Addr) (n cap : Nat) (L : List Int) (hL : WfL L) (w : World) (h : IntAt w w.heap.size A n L) (hn : n ≤ 1000000000) :
    Calls Try.prog 106 #[.agg #[.int .i64 W, .int .i64 H, .slice A n cap]] w (RetB (meshG W H L) w) := by
  have hl := h.1
  have HI := Lib.hid h
  have HW := Lib.hid hL
  clear h hL
  cases hok : okG W H with
  | false =>
    go_enter Try.func106, Try.ntmps106
    go_wp2_with fail
    refine (implGridOk W H _).mono ?_
    rintro e w1 ⟨rfl, hg⟩
    rw [hok]
    go_wp2_with fail
    go_ret
    exact ⟨ret_bool (meshG_bad hok).symm, boxi_gb hg⟩
  | true =>
    go_enter Try.func106, Try.ntmps106
    go_wp2_with fail
    refine (implGridOk W H _).mono ?_
    rintro e w1 ⟨rfl, hg⟩
    have HM := Lib.hid (show MeshAt W H L A n cap w 0 w1 from ⟨goodTo_zero W H L, hg⟩)
    have hbk := boxi_blk hg
    have a2 : w1.cell? ⟨w.heap.size, 2, none⟩ = some (.slice A n cap) := hbk.cell 2
    clear hg hbk
    rw [hok]
    go_wp2_with fail
    clear a2
    go_loopw [12] (fun i wr => ∃ k : Nat, i = .int .i64 (k : Int) ∧ k ≤ n ∧ MeshAt W H L A n cap w k wr) (fun i _ => n - (intOf i).toNat)
    case atStart => exact ⟨0, rfl, Nat.zero_le _, HM.out⟩
    case round =>
      obtain ⟨k, rfl, hk, hgood, hg⟩ := hrel
      have HGo := Lib.hid hgood
      have HG := Lib.hid hg
      have hbk := boxi_blk hg
      have HBK := Lib.hid hbk
      have a0 : wr.cell? ⟨w.heap.size, 0, none⟩ = some (.int .i64 W) := hbk.cell 0
      have a1 : wr.cell? ⟨w.heap.size, 1, none⟩ = some (.int .i64 H) := hbk.cell 1
      have a2 : wr.cell? ⟨w.heap.size, 2, none⟩ = some (.slice A n cap) := hbk.cell 2
      have hia := HI.out.none (Nat.le_refl _) (boxi_gb hg)
      have HIA := Lib.hid hia
      clear hg hgood hbk
      by_cases hlt : k < n
      · obtain ⟨b, off, rfl, hb, hc⟩ := hia.at k hlt
        obtain ⟨x, hx⟩ : ∃ x, L.getD k 0 = x := ⟨_, rfl⟩
        rw [hx] at hc
        obtain ⟨r, hr⟩ : ∃ r, endG W H x = r := ⟨_, rfl⟩
        have HE := Lib.hid (fun w => implEnd W H x r (HW.out.get (by omega) hx) hr w)
        have hld := leads_end W H x
        rw [hr] at hld
        clear hia hr
        by_cases h0 : r < 0
        · have hbad := meshG_no (L := L) (i := k) (by omega) (goodAt_lead hx (by rw [hld]; exact decide_eq_false (by omega)))
          have HBad := Lib.hid hbad
          clear hx hld hbad
          go_wp2_with fail
          refine (HE.out _).mono ?_
          rintro e w2 ⟨rfl, hg2⟩
          have HG2 := Lib.hid (gb_trans (boxi_gb HG.out) hg2)
          clear hg2
          go_wp2_with fail
          go_ret
          exact ⟨ret_bool HBad.out.symm, HG2.out⟩
        · have hldt : leadsG W H x = true := by rw [hld]; exact decide_eq_true (by omega)
          clear hld
          cases k with
          | zero =>
            have HNx := Lib.hid (goodTo_succ HGo.out (goodAt_first hx hldt))
            have hc' : wr.cell? ⟨b, off, none⟩ = some (.int .i64 x) := hc
            clear hx hldt hc
            go_wp2_with fail
            refine (HE.out _).mono ?_
            rintro e w2 ⟨rfl, hg2⟩
            have HG2 := Lib.hid (gb_trans HG.out hg2)
            clear hg2
            go_wp2_with fail
            go_roundw
            case rel => exact ⟨1, by go_num, by omega, HNx.out, HG2.out⟩
            case measure => simp [intOf] <;> omega
          | succ j =>
            obtain ⟨b', off', hbe, _, hc2⟩ := HIA.out.at j (by omega)
            obtain ⟨rfl, rfl⟩ : b = b' ∧ off = off' := by injection hbe with h1; injection h1 with h2 h3; exact ⟨h2, h3⟩
            obtain ⟨y, hy⟩ : ∃ y, L.getD j 0 = y := ⟨_, rfl⟩
            rw [hy] at hc2
            have hga := goodAt_next hx hy hldt
            have HGA := Lib.hid hga
            clear hx hy hldt hga hbe
            go_wp2_with fail
            refine (HE.out _).mono ?_
            rintro e w2 ⟨rfl, hg2⟩
            have dc := hg2.cell hc (by simp)
            have dc2 := hg2.cell hc2 (by simp)
            have d2 := hg2.cell a2 (by simp)
            have HG2 := Lib.hid (gb_trans HG.out hg2)
            clear hg2 hc hc2 a0 a1 a2
            by_cases hyx : y < x
            · have hge : decide (y ≥ x) = false := decide_eq_false (by omega)
              have HNx := Lib.hid (goodTo_succ HGo.out (HGA.out.trans (decide_eq_true hyx)))
              clear hyx
              go_wp2_with fail
              go_roundw
              case rel => exact ⟨j + 2, by go_num, by omega, HNx.out, HG2.out⟩
              case measure => simp [intOf] <;> omega
            · have hge : decide (y ≥ x) = true := decide_eq_true (by omega)
              have HBad := Lib.hid (meshG_no (i := j + 1) (by omega) (HGA.out.trans (decide_eq_false hyx)))
              clear hyx
              go_wp2_with fail
              go_ret
              exact ⟨ret_bool HBad.out.symm, boxi_gb HG2.out⟩
      · obtain rfl : k = n := by omega
        clear hia
        go_wp2_with fail
        go_ret
        exact ⟨ret_bool (meshG_yes hok (by rw [hl]; exact HGo.out)).symm, boxi_gb HG.out⟩

theorem implMeshOkV (W H : Int) (A : Option Addr) (n cap : Nat) (L : List Int) (b : Bool) (hb : meshG W H L = b) (hL : WfL L) (w : World) (h : IntAt w w.heap.size A n L) (hn : n ≤ 1000000000) :
    Calls Try.prog 106 #[.agg #[.int .i64 W, .int .i64 H, .slice A n cap]] w (RetB b w) := hb ▸ implMeshOk W H A n cap L hL w h hn
end Go.Proofs.Ytcmlnokfjbglaaa
end

section
namespace Go.Proofs.Ytcmlnokfjbglaaa
open Go.ChangeShapes Go.WideShapes Go.ChangeAt Go.RowKit
set_option linter.unusedVariables false

/-- A mesh, a table and a square as blocks. -/
def thrB (W H : Int) (A A2 : Option Addr) (n cap n2 c2 : Nat) (w : World) : World :=
  ((w.alloc (.cells (meshC W H A n cap) 30)).alloc (.cells #[.slice A2 n2 c2] 32)).alloc (.cells (cellsX zerosX) 116)
section
variable {W H : Int} {A A2 : Option Addr} {n cap n2 c2 : Nat} {w wr : World}
theorem thrB_size : (thrB W H A A2 n cap n2 c2 w).heap.size = w.heap.size + 3 := by unfold thrB; rw [alloc_size, alloc_size, alloc_size]
theorem thrB_gb : w.grownBy (thrB W H A A2 n cap n2 c2 w) none := gb_alloc (gb_alloc (gb_alloc (gb_refl _ _) _) _) _
theorem thrB_mesh : Blk (thrB W H A A2 n cap n2 c2 w) w.heap.size 30 (meshC W H A n cap) := ((Blk.new w 30 (meshC W H A n cap)).alloc _).alloc _
theorem thrB_table : Blk (thrB W H A A2 n cap n2 c2 w) (w.heap.size + 1) 32 #[.slice A2 n2 c2] := by
  have := Blk.new (w.alloc (.cells (meshC W H A n cap) 30)) 32 #[.slice A2 n2 c2]
  rw [alloc_size] at this
  exact this.alloc _
theorem thrB_square : Blk (thrB W H A A2 n cap n2 c2 w) (w.heap.size + 2) 116 (cellsX (zerosX)) := by
  have := Blk.new ((w.alloc (.cells (meshC W H A n cap) 30)).alloc (.cells #[.slice A2 n2 c2] 32)) 116 (cellsX zerosX)
  rw [alloc_size, alloc_size] at this
  exact this
end

theorem implPortsNo (W H : Int) (A A2 : Option Addr) (n cap n2 c2 : Nat) (L P : List Int) (hL : WfL L) (w : World) (h : IntAt w w.heap.size A n L) (h2 : IntAt w w.heap.size A2 n2 P) (hn : n ≤ 1000000000) (hn2 : n2 ≤ 1000000000)
    (hs : sizedG W H L P = false) :
    Calls Try.prog 84 #[.agg #[.int .i64 W, .int .i64 H, .slice A n cap], .agg #[.slice A2 n2 c2]] w (RetX (zerosX) false w) := by
  have hp := h2.1
  have HI := Lib.hid (h.none (Nat.le_refl _) (thrB_gb (W := W) (H := H) (A := A) (A2 := A2) (n := n) (cap := cap) (n2 := n2) (c2 := c2)))
  clear h h2
  obtain ⟨k, hk⟩ : ∃ k, countG W H = k := ⟨_, rfl⟩
  obtain ⟨hk0, hk1⟩ := countG_le W H
  rw [hk] at hk0 hk1
  have HN := Lib.hid (fun w => show Calls Try.prog 85 #[.agg #[.int .i64 W, .int .i64 H]] w (RetI k none w) from hk ▸ implNodeCount W H w)
  have TM := Lib.hid (thrB_mesh (W := W) (H := H) (A := A) (A2 := A2) (n := n) (cap := cap) (n2 := n2) (c2 := c2) (w := w))
  have TT := Lib.hid (thrB_table (W := W) (H := H) (A := A) (A2 := A2) (n := n) (cap := cap) (n2 := n2) (c2 := c2) (w := w))
  have TS := Lib.hid (thrB_square (W := W) (H := H) (A := A) (A2 := A2) (n := n) (cap := cap) (n2 := n2) (c2 := c2) (w := w))
  have TG := Lib.hid (thrB_gb (W := W) (H := H) (A := A) (A2 := A2) (n := n) (cap := cap) (n2 := n2) (c2 := c2) (w := w))
  have TZ := Lib.hid (thrB_size (W := W) (H := H) (A := A) (A2 := A2) (n := n) (cap := cap) (n2 := n2) (c2 := c2) (w := w))
  cases hm : meshG W H L with
  | false =>
    have HK := Lib.hid (fun w h => implMeshOkV W H A n cap L false hm hL w h hn)
    clear hm hL hs hk
    go_enter Try.func84, Try.ntmps84
    go_wp2_with fail
    refine (HN.out _).mono ?_
    rintro e w1 ⟨rfl, hg⟩
    rw [zero_cells] at hg
    have hg1 : (thrB W H A A2 n cap n2 c2 w).grownBy w1 none := hg
    have hbk := TM.out.grown hg1 (by simp)
    have a0 : w1.cell? ⟨w.heap.size, 0, none⟩ = some (.int .i64 W) := hbk.cell 0
    have a1 : w1.cell? ⟨w.heap.size, 1, none⟩ = some (.int .i64 H) := hbk.cell 1
    have a2 : w1.cell? ⟨w.heap.size, 2, none⟩ = some (.slice A n cap) := hbk.cell 2
    have hi := (HI.out.none (by rw [TZ.out]; omega) hg1).more (B' := w1.heap.size) (gb_trans TG.out hg1).size
    have HG := Lib.hid hg1
    clear hg hg1 hbk
    go_wp2_with fail
    refine (HK.out _ hi).mono ?_
    rintro e w2 ⟨rfl, hg2⟩
    have HG2 := Lib.hid (gb_trans HG.out hg2)
    have HSq := Lib.hid (TS.out.grown HG2.out (by simp))
    clear hg2 hi a0 a1 a2
    go_wp2_with (refine wpList_storeX rfl _ _ rfl (w.heap.size + 1 + 1) zerosX zerosX rfl (congrArg Value.agg zero_cells) HSq.out zerosX_length zerosX_length ?_; intro w3 hb3 hg3; have HB3 := Lib.hid hb3; have HG3 := Lib.hid hg3; clear hb3 hg3)
    refine bodyPost_ret (v := .tuple #[.agg (cellsX zerosX), .bool false]) ?_ rfl ⟨rfl, gb_new (gb_trans TG.out HG2.out) HG3.out (by omega)⟩
    rw [results_cell_tmp rfl]
    simp [asAddr, Result.andThen, load_square HB3.out zerosX_length]
  | true =>
    have hsq : ¬ (n2 : Int) = k * k := fun e => by
      have : sizedG W H L P = true := by simp [sizedG, hm, hk, hp, e]
      rw [hs] at this; cases this
    have hkk0 : 0 ≤ k * k := Int.mul_nonneg hk0 hk0
    have hkk1 : k * k ≤ 256 := Int.le_trans (Int.mul_le_mul hk1 hk1 hk0 (by omega)) (by omega)
    obtain ⟨q, hq⟩ : ∃ q, k * k = q := ⟨_, rfl⟩
    rw [hq] at hkk0 hkk1 hsq
    have e1 : wrap64 (k * k) = q := by rw [hq]; exact IntWalk.wrap64_in _ (by omega)
    have hb : ((n2 : Int) != q) = true := by simpa using hsq
    have HK := Lib.hid (fun w h => implMeshOkV W H A n cap L true hm hL w h hn)
    clear hm hL hs hk hq
    go_enter Try.func84, Try.ntmps84
    go_wp2_with fail
    refine (HN.out _).mono ?_
    rintro e w1 ⟨rfl, hg⟩
    rw [zero_cells] at hg
    have hg1 : (thrB W H A A2 n cap n2 c2 w).grownBy w1 none := hg
    have hbk := TM.out.grown hg1 (by simp)
    have a0 : w1.cell? ⟨w.heap.size, 0, none⟩ = some (.int .i64 W) := hbk.cell 0
    have a1 : w1.cell? ⟨w.heap.size, 1, none⟩ = some (.int .i64 H) := hbk.cell 1
    have a2 : w1.cell? ⟨w.heap.size, 2, none⟩ = some (.slice A n cap) := hbk.cell 2
    have hi := (HI.out.none (by rw [TZ.out]; omega) hg1).more (B' := w1.heap.size) (gb_trans TG.out hg1).size
    have HG := Lib.hid hg1
    clear hg hg1 hbk
    go_wp2_with fail
    refine (HK.out _ hi).mono ?_
    rintro e w2 ⟨rfl, hg2⟩
    have HG2 := Lib.hid (gb_trans HG.out hg2)
    have HSq := Lib.hid (TS.out.grown HG2.out (by simp))
    have b0 : w2.cell? ⟨w.heap.size + 1, 0, none⟩ = some (.slice A2 n2 c2) := (TT.out.grown HG2.out (by simp)).cell 0
    clear hg2 hi a0 a1 a2
    go_wp2_with (refine wpList_storeX rfl _ _ rfl (w.heap.size + 1 + 1) zerosX zerosX rfl (congrArg Value.agg zero_cells) HSq.out zerosX_length zerosX_length ?_; intro w3 hb3 hg3; have HB3 := Lib.hid hb3; have HG3 := Lib.hid hg3; clear hb3 hg3)
    refine bodyPost_ret (v := .tuple #[.agg (cellsX zerosX), .bool false]) ?_ rfl ⟨rfl, gb_new (gb_trans TG.out HG2.out) HG3.out (by omega)⟩
    rw [results_cell_tmp rfl]
    simp [asAddr, Result.andThen, load_square HB3.out zerosX_length]

/-- The square after j entries, in a block of the call's own. -/
def PortsAt (W H : Int) (A A2 : Option Addr) (n cap n2 c2 : Nat) (P : List Int) (w : World) (g j : Nat) (wr : World) : Prop :=
  Blk wr g 116 (cellsX (portsX W H P j)) ∧ (thrB W H A A2 n cap n2 c2 w).grownBy wr none

theorem implPortsYes (W H : Int) (A A2 : Option Addr) (n cap n2 c2 : Nat) (L P : List Int) (hL : WfL L) (w : World) (h : IntAt w w.heap.size A n L) (h2 : IntAt w w.heap.size A2 n2 P) (hn : n ≤ 1000000000) (hn2 : n2 ≤ 1000000000)
    (hs : sizedG W H L P = true) :
    Calls Try.prog 84 #[.agg #[.int .i64 W, .int .i64 H, .slice A n cap], .agg #[.slice A2 n2 c2]] w (RetX (portsX W H P P.length) true w) := by
  have hp := h2.1
  have HI := Lib.hid (h.none (Nat.le_refl _) (thrB_gb (W := W) (H := H) (A := A) (A2 := A2) (n := n) (cap := cap) (n2 := n2) (c2 := c2)))
  have HP := Lib.hid (h2.none (Nat.le_refl _) (thrB_gb (W := W) (H := H) (A := A) (A2 := A2) (n := n) (cap := cap) (n2 := n2) (c2 := c2)))
  clear h h2
  obtain ⟨k, hk⟩ : ∃ k, cntN W H = k := ⟨_, rfl⟩
  have hki := cntN_int W H
  have hk1 := cntN_le W H
  rw [hk] at hki hk1
  have hsz := (sizedG_mesh hs).2
  have hm := (sizedG_mesh hs).1
  rw [hp, ← hki] at hsz
  have HN := Lib.hid (fun w => show Calls Try.prog 85 #[.agg #[.int .i64 W, .int .i64 H]] w (RetI (k : Int) none w) from hki ▸ implNodeCount W H w)
  have HK := Lib.hid (fun w h => implMeshOkV W H A n cap L true hm hL w h hn)
  have TM := Lib.hid (thrB_mesh (W := W) (H := H) (A := A) (A2 := A2) (n := n) (cap := cap) (n2 := n2) (c2 := c2) (w := w))
  have TT := Lib.hid (thrB_table (W := W) (H := H) (A := A) (A2 := A2) (n := n) (cap := cap) (n2 := n2) (c2 := c2) (w := w))
  have TS := Lib.hid (thrB_square (W := W) (H := H) (A := A) (A2 := A2) (n := n) (cap := cap) (n2 := n2) (c2 := c2) (w := w))
  have TG := Lib.hid (thrB_gb (W := W) (H := H) (A := A) (A2 := A2) (n := n) (cap := cap) (n2 := n2) (c2 := c2) (w := w))
  have TZ := Lib.hid (thrB_size (W := W) (H := H) (A := A) (A2 := A2) (n := n) (cap := cap) (n2 := n2) (c2 := c2) (w := w))
  have hkk1 : (k : Int) * k ≤ 256 := Int.le_trans (Int.mul_le_mul (Int.ofNat_le.2 hk1) (Int.ofNat_le.2 hk1) (by omega) (by omega)) (by omega)
  have hn256 : n2 ≤ 256 := by omega
  have e1 : wrap64 ((k : Int) * k) = (n2 : Int) := by rw [← hsz]; exact IntWalk.wrap64_in _ (by omega)
  have hb : ((n2 : Int) != (n2 : Int)) = false := by simp
  have HSZ := Lib.hid (show n2 = k * k by exact_mod_cast hsz)
  have HKK := Lib.hid hk
  have HPL := Lib.hid hp
  clear hm hL hs hk hki hsz hkk1 hp
  go_enter Try.func84, Try.ntmps84
  go_wp2_with fail
  refine (HN.out _).mono ?_
  rintro e w1 ⟨rfl, hg⟩
  rw [zero_cells] at hg
  have hg1 : (thrB W H A A2 n cap n2 c2 w).grownBy w1 none := hg
  have hbk := TM.out.grown hg1 (by simp)
  have a0 : w1.cell? ⟨w.heap.size, 0, none⟩ = some (.int .i64 W) := hbk.cell 0
  have a1 : w1.cell? ⟨w.heap.size, 1, none⟩ = some (.int .i64 H) := hbk.cell 1
  have a2 : w1.cell? ⟨w.heap.size, 2, none⟩ = some (.slice A n cap) := hbk.cell 2
  have hi := (HI.out.none (by rw [TZ.out]; omega) hg1).more (B' := w1.heap.size) (gb_trans TG.out hg1).size
  have HG := Lib.hid hg1
  clear hg hg1 hbk
  go_wp2_with fail
  refine (HK.out _ hi).mono ?_
  rintro e w2 ⟨rfl, hg2⟩
  have HG2 := Lib.hid (gb_trans HG.out hg2)
  have HSq := Lib.hid (TS.out.grown HG2.out (by simp))
  have b0 : w2.cell? ⟨w.heap.size + 1, 0, none⟩ = some (.slice A2 n2 c2) := (TT.out.grown HG2.out (by simp)).cell 0
  have b1 : (w2.alloc (.cells Try.zeroCells116 116)).cell? ⟨w.heap.size + 1, 0, none⟩ = some (.slice A2 n2 c2) := ((TT.out.grown HG2.out (by simp)).alloc _).cell 0
  have HB2 := Lib.hid (show w.heap.size + 3 ≤ w2.heap.size by have := HG2.out.size; rw [TZ.out] at this; exact this)
  clear hg2 hi a0 a1 a2
  go_wp2_with fail
  obtain ⟨g, hg⟩ : ∃ g, w2.heap.size = g := ⟨_, rfl⟩
  rw [zero_cells]
  have HX := Lib.hid (show PortsAt W H A A2 n cap n2 c2 P w g 0 (w2.alloc (.cells (cellsX zerosX) 116)) from ⟨hg ▸ Blk.new w2 116 (cellsX zerosX), gb_alloc HG2.out _⟩)
  rw [hg, e1]
  have HGE := Lib.hid (show w.heap.size + 3 ≤ g by rw [← hg]; exact HB2.out)
  clear hg b0 b1 e1 hb
  go_loopw [29] (fun i wr => ∃ j : Nat, i = .int .i64 (j : Int) ∧ j ≤ n2 ∧ PortsAt W H A A2 n cap n2 c2 P w g j wr) (fun i _ => n2 - (intOf i).toNat)
  case atStart => exact ⟨0, rfl, Nat.zero_le _, HX.out⟩
  case round =>
    obtain ⟨j, rfl, hj, hblk, hgr⟩ := hrel
    have HBk := Lib.hid hblk
    have HGr := Lib.hid hgr
    clear hgr hblk
    by_cases hlt : j < n2
    · have hsz := HSZ.out
      have hk0 : 0 < k := Nat.pos_of_ne_zero fun e => by rw [e] at hsz; omega
      obtain ⟨b, off, rfl, hbB, hcell⟩ := (HP.out.none (by rw [TZ.out]; omega) HGr.out).at j hlt
      obtain ⟨p, hpp⟩ : ∃ p, P.getD j 0 = p := ⟨_, rfl⟩
      rw [hpp] at hcell
      obtain ⟨x, hx⟩ : ∃ x, j / k = x := ⟨_, rfl⟩
      obtain ⟨y, hy⟩ : ∃ y, j % k = y := ⟨_, rfl⟩
      have hx1 : x < k := by rw [← hx]; exact Nat.div_lt_of_lt_mul (by rw [← hsz]; exact hlt)
      have hy1 : y < k := by rw [← hy]; exact Nat.mod_lt _ hk0
      have d1 : Int.tdiv (j : Int) (k : Int) = (x : Int) := by rw [← hx]; rfl
      have d2 : Int.tmod (j : Int) (k : Int) = (y : Int) := by rw [← hy]; rfl
      have hx16 : (x : Int) < 16 := by omega
      have hy16 : (y : Int) < 16 := by omega
      obtain ⟨o, ho⟩ : ∃ o, (portsX W H P j).getD (16 * x + y) 0 = o := ⟨_, rfl⟩
      have c1 : wr.cell? ⟨g, x * 16 + y, none⟩ = some (.int .i64 o) := by rw [Nat.mul_comm x 16]; exact (HBk.out.cell (16 * x + y)).trans (cellsX_at (by rw [portsX, sqTo_length]; omega) ho)
      have f1 := HBk.out.frozen (x * 16 + y)
      have hb2 := HBk.out.set_ (x * 16 + y) (.int .i64 (portP p))
      rw [cellsX_set, show (portsX W H P j).set (x * 16 + y) (portP p) = portsX W H P (j + 1) by rw [portsX, portsX, sqTo, HKK.out, hx, hy, hpp, Nat.mul_comm x 16]] at hb2
      have HB2x := Lib.hid hb2
      have HG2x := Lib.hid (gb_setCell HGr.out (p := ⟨g, x * 16 + y, none⟩) (.inr (by rw [TZ.out]; exact HGE.out)) (.int .i64 (portP p)))
      clear hb2 hx hy hpp ho hsz
      by_cases hp0 : p < 0
      · rw [portP_out (.inl hp0)] at HB2x HG2x
        go_wp2_with fail
        go_region
        go_wp2_with fail
        go_roundw
        case rel => exact ⟨j + 1, by go_num, by omega, HB2x.out.drewN 1, gb_drew HG2x.out⟩
        case measure => simp [intOf]; omega
      · by_cases hp4 : 4 < p
        · rw [portP_out (.inr hp4)] at HB2x HG2x
          go_wp2_with fail
          go_region
          go_wp2_with fail
          go_roundw
          case rel => exact ⟨j + 1, by go_num, by omega, HB2x.out.drewN 1, gb_drew HG2x.out⟩
          case measure => simp [intOf]; omega
        · rw [portP_in (by omega) (by omega)] at HB2x HG2x
          go_wp2_with fail
          go_region
          go_wp2_with fail
          go_roundw
          case rel => exact ⟨j + 1, by go_num, by omega, HB2x.out.drewN 1, gb_drew HG2x.out⟩
          case measure => simp [intOf]; omega
    · obtain rfl : j = n2 := by omega
      go_wp2_with (first | (refine wpList_loadX rfl _ rfl g rfl (portsX W H P j) HBk.out (sqTo_length _ _ _) ?_) | (refine wpList_storeX rfl _ _ rfl (w.heap.size + 1 + 1) zerosX (portsX W H P j) rfl rfl ((TS.out.grown HGr.out (by simp))) zerosX_length (sqTo_length _ _ _) ?_; intro w3 hb3 hg3; have HB3 := Lib.hid hb3; have HG3 := Lib.hid hg3; clear hb3 hg3))
      refine bodyPost_ret (v := .tuple #[.agg (cellsX (portsX W H P j)), .bool true]) ?_ rfl ⟨by rw [HPL.out], gb_new (gb_trans TG.out HGr.out) HG3.out (by omega)⟩
      rw [results_cell_tmp rfl]
      simp [asAddr, Result.andThen, load_square HB3.out (sqTo_length _ _ _)]
end Go.Proofs.Ytcmlnokfjbglaaa
end

section
namespace Go.Proofs.Ytcmlnokfjbglaaa
open Go.ChangeShapes Go.WideShapes Go.ChangeAt Go.RowKit
set_option linter.unusedVariables false

/-- A mesh and a table as blocks. -/
def twoI (W H : Int) (A A2 : Option Addr) (n cap n2 c2 : Nat) (w : World) : World := (w.alloc (.cells (meshC W H A n cap) 30)).alloc (.cells #[.slice A2 n2 c2] 32)
section
variable {W H : Int} {A A2 : Option Addr} {n cap n2 c2 : Nat} {w wr : World}
theorem twoI_size : (twoI W H A A2 n cap n2 c2 w).heap.size = w.heap.size + 2 := by unfold twoI; rw [alloc_size, alloc_size]
theorem twoI_gb : w.grownBy (twoI W H A A2 n cap n2 c2 w) none := gb_alloc (gb_alloc (gb_refl _ _) _) _
theorem twoI_mesh (h : (twoI W H A A2 n cap n2 c2 w).grownBy wr none) : Blk wr w.heap.size 30 (meshC W H A n cap) := ((Blk.new w 30 (meshC W H A n cap)).alloc _).grown h (by simp)
theorem twoI_table (h : (twoI W H A A2 n cap n2 c2 w).grownBy wr none) : Blk wr (w.heap.size + 1) 32 #[.slice A2 n2 c2] := by
  have := Blk.new (w.alloc (.cells (meshC W H A n cap) 30)) 32 #[.slice A2 n2 c2]
  rw [alloc_size] at this
  exact this.grown h (by simp)
theorem twoI_le (h : (twoI W H A A2 n cap n2 c2 w).grownBy wr none) : w.heap.size + 2 ≤ wr.heap.size := by have := h.size; rw [twoI_size] at this; exact this
theorem twoI_old (h : (twoI W H A A2 n cap n2 c2 w).grownBy wr none) : w.grownBy wr none := gb_trans twoI_gb h
theorem IntAt.twoI {B : Option Addr} {m : Nat} {M : List Int} (h : IntAt w w.heap.size B m M) : IntAt (twoI W H A A2 n cap n2 c2 w) (twoI W H A A2 n cap n2 c2 w).heap.size B m M :=
  (h.none (Nat.le_refl _) twoI_gb).more (by rw [twoI_size]; omega)
theorem IntAt.oldI {B : Option Addr} {m : Nat} {M : List Int} (h : IntAt w w.heap.size B m M) (hg : w.grownBy wr Option.none) : IntAt wr wr.heap.size B m M :=
  (h.none (Nat.le_refl _) hg).more hg.size
end
/-- The new block of a square. -/
theorem new_square (w : World) : Blk (w.alloc (.cells Try.zeroCells116 116)) w.heap.size 116 (cellsX zerosX) := by
  rw [← zero_cells]; exact Blk.new w _ _
theorem gb_square {a b c : World} (h : a.grownBy b none) (k : (b.alloc (.cells Try.zeroCells116 116)).grownBy c (some b.heap.size)) : a.grownBy c none :=
  gb_new (gb_alloc h _) k h.size
end Go.Proofs.Ytcmlnokfjbglaaa
end

section
namespace Go.Proofs.Ytcmlnokfjbglaaa
open Go.ChangeShapes Go.WideShapes Go.ChangeAt Go.RowKit
set_option linter.unusedVariables false

/-- An index, or -1. -/
def Idx (L : List Int) (c : Int) (w : World) (e : Ending) (w' : World) : Prop := ∃ k : Int, e = .returned (.int .i64 k) ∧ decide (0 ≤ k) = inG L c ∧ w = w'
theorem implIndex (A : Option Addr) (n cap B : Nat) (L : List Int) (c : Int) (w : World) (h : IntAt w B A n L) (hn : n ≤ 1000000000) :
    Calls Try.prog 137 #[.slice A n cap, .int .i64 c] w (Idx L c w) := by
  have hl := h.1
  have HI := Lib.hid h
  clear h
  go_enter Try.func137, Try.ntmps137
  go_wp2_with fail
  go_loop [8] (fun i => ∃ k : Nat, i = .int .i64 (k : Int) ∧ k ≤ n ∧ ∀ j, j < k → L.getD j 0 ≠ c) (fun i => n - (intOf i).toNat)
  case atStart => exact ⟨0, rfl, Nat.zero_le _, fun j h => by omega⟩
  case round =>
    obtain ⟨k, rfl, hk, hne⟩ := hrel
    have HNE := Lib.hid hne
    clear hne
    by_cases hlt : k < n
    · obtain ⟨b, off, rfl, hb, hc⟩ := HI.out.at k hlt
      obtain ⟨x, hx⟩ : ∃ x, L.getD k 0 = x := ⟨_, rfl⟩
      rw [hx] at hc
      have HX := Lib.hid hx
      clear hx
      by_cases hxc : x = c
      · subst hxc
        go_wp2_with fail
        go_ret
        exact ⟨_, rfl, by rw [inG_yes (by omega) HX.out]; exact decide_eq_true (by omega), rfl⟩
      · have hxb : (c == x) = false := by simpa using fun e => hxc e.symm
        have HXC := Lib.hid hxc
        clear hxc
        go_wp2_with fail
        go_round
        case rel => exact ⟨k + 1, by go_num, by omega, fun j hj => by
          rcases Nat.lt_succ_iff_lt_or_eq.1 hj with h1 | rfl
          · exact HNE.out j h1
          · rw [HX.out]; exact HXC.out⟩
        case measure => simp [intOf]; omega
    · obtain rfl : k = n := by omega
      go_wp2_with fail
      go_ret
      exact ⟨-1, rfl, by rw [inG_no (fun j hj => HNE.out j (by omega))]; rfl, rfl⟩

theorem implContains (A : Option Addr) (n cap B : Nat) (L : List Int) (c : Int) (b : Bool) (hb : inG L c = b) (w : World) (h : IntAt w B A n L) (hn : n ≤ 1000000000) :
    Calls Try.prog 123 #[.slice A n cap, .int .i64 c] w fun e w' => e = .returned (.bool b) ∧ w = w' := by
  have HC := Lib.hid (fun w h => implIndex A n cap B L c w h hn)
  have HI := Lib.hid h
  clear h
  go_enter Try.func123, Try.ntmps123
  go_wp2_with fail
  refine (HC.out _ HI.out).mono ?_
  rintro e w1 ⟨k, rfl, hk, rfl⟩
  rw [hb] at hk
  have HK := Lib.hid hk
  clear hk hb
  go_wp2_with fail
  go_ret
  exact ⟨ret_bool (by rw [← HK.out]), rfl⟩

end Go.Proofs.Ytcmlnokfjbglaaa
end

section
namespace Go.Proofs.Ytcmlnokfjbglaaa
open Go.ChangeShapes Go.WideShapes Go.ChangeAt Go.RowKit
set_option linter.unusedVariables false

theorem implConnects (W H : Int) (A : Option Addr) (n cap : Nat) (L : List Int) (c : Int) (b : Bool) (hcw : (Lit.int .i64 c).wf = true) (hb : hasChG W H L c = b) (w : World) (h : IntAt w w.heap.size A n L) (hn : n ≤ 1000000000) :
    Calls Try.prog 107 #[.agg #[.int .i64 W, .int .i64 H, .slice A n cap], .int .i64 c] w (RetB b w) := by
  obtain ⟨r, hr⟩ : ∃ r, endG W H c = r := ⟨_, rfl⟩
  have HE := Lib.hid (fun w => implEnd W H c r hcw hr w)
  have HI := Lib.hid h
  have hld := leads_end W H c
  rw [hr] at hld
  clear h hcw hr
  by_cases h0 : 0 ≤ r
  · obtain ⟨q, hq⟩ : ∃ q, inG L c = q := ⟨_, rfl⟩
    have hv : b = !q := by rw [← hb, hasChG, hld, decide_eq_true h0, hq]; rfl
    have HV := Lib.hid hv
    have hd : decide (r ≥ 0) = true := decide_eq_true h0
    have HF := Lib.hid (fun w h => implContains A n cap (w.heap.size) L c q hq w h hn)
    clear hv hld hb hq
    go_enter Try.func107, Try.ntmps107
    go_wp2_with fail
    refine (HE.out _).mono ?_
    rintro e w1 ⟨rfl, hg⟩
    have hbk := boxi_blk hg
    have a2 : w1.cell? ⟨w.heap.size, 2, none⟩ = some (.slice A n cap) := hbk.cell 2
    have hi := (HI.out.none (Nat.le_refl _) (boxi_gb hg)).more (B' := w1.heap.size) (boxi_gb hg).size
    have Hg := Lib.hid (boxi_gb hg)
    clear hg hbk
    go_wp2_with fail
    refine (HF.out _ hi).mono ?_
    rintro e w2 ⟨rfl, rfl⟩
    clear hi
    go_wp2_with fail
    go_ret
    exact ⟨ret_bool (by rw [HV.out]), Hg.out⟩
  · have hv : b = false := by rw [← hb, hasChG, hld, decide_eq_false h0]; rfl
    have hd : decide (r ≥ 0) = false := decide_eq_false h0
    have HV := Lib.hid hv
    clear hv hld hb
    go_enter Try.func107, Try.ntmps107
    go_wp2_with fail
    refine (HE.out _).mono ?_
    rintro e w1 ⟨rfl, hg⟩
    have Hg := Lib.hid (boxi_gb hg)
    clear hg
    go_wp2_with fail
    go_ret
    exact ⟨ret_bool (by rw [HV.out]), Hg.out⟩
end Go.Proofs.Ytcmlnokfjbglaaa
end

section
namespace Go.Proofs.Ytcmlnokfjbglaaa
open Go.ChangeShapes Go.WideShapes Go.ChangeAt Go.RowKit
set_option linter.unusedVariables false
set_option maxRecDepth 20000

theorem end_step {W H p : Int} {x : Nat} (h0 : 0 ≤ p) (h3 : p ≤ 3) : endG W H (4 * (x : Int) + p) = nextG W H x p := by
  unfold endG
  rw [Int.tdiv_eq_ediv_of_nonneg (by omega), Int.tmod_eq_emod_of_nonneg (by omega)]
  rw [show (4 * (x : Int) + p) / 4 = x by omega, show (4 * (x : Int) + p) % 4 = p by omega]

theorem ret_two {v : Value} {a b : Bool} (h : a = b) : Ending.returned (.tuple #[v, .bool a]) = Ending.returned (.tuple #[v, .bool b]) := by rw [h]
/-- A new list of numbers, and whether there is one. -/
def NewW (L : List Int) (b : Bool) (w : World) (e : Ending) (w' : World) : Prop :=
  ∃ v, e = .returned (.tuple #[v, .bool b]) ∧ w'.ownsRow w.heap.size 3 1 v L.length (intsV L) ∧ Below w.heap.size w w'
def lenW : Value → Nat | .slice _ n _ => n | _ => 0
/-- The walk has come to x. -/
def WalkTo (W H : Int) (A : Option Addr) (n cap : Nat) (L P : List Int) (z : Nat) (res : List Int) (rb : Bool) (w : World) (acc : List Int) (x : Nat) (v : Value) (wr : World) : Prop :=
  (x : Int) < countG W H ∧ acc.length ≤ cntN W H ∧ res = restG W H L P z acc (cntN W H + 1 - acc.length) x ∧ rb = restE W H L P z (cntN W H + 1 - acc.length) x ∧
  wr.ownsRow (w.heap.size + 1) 3 1 v acc.length (intsV acc) ∧ Below (w.heap.size + 1) (w.alloc (.cells (meshC W H A n cap) 30)) wr

theorem app_to {W H : Int} {A : Option Addr} {n cap : Nat} {w w4 w5 : World} {acc : List Int} {c : Int} {v v' : Value} {o : Obj} (hb : Below (w.heap.size + 1) (w.alloc (.cells (meshC W H A n cap) 30)) w4) (ho : w4.ownsRow (w.heap.size + 1) 3 1 v acc.length (intsV acc))
    (hown5 : w5.ownsRow (w.heap.size + 1) 3 1 v' (acc.length + 1) (intsV acc ++ [.int .i64 c])) (hg : (w4.alloc o).grownBy w5 v.ownBlock) :
    w5.ownsRow (w.heap.size + 1) 3 1 v' (acc ++ [c]).length (intsV (acc ++ [c])) ∧ Below (w.heap.size + 1) (w.alloc (.cells (meshC W H A n cap) 30)) w5 ∧ lenW v' = acc.length + 1 ∧
    w5.cell? ⟨w.heap.size, 0, none⟩ = some (.int .i64 W) ∧ w5.cell? ⟨w.heap.size, 1, none⟩ = some (.int .i64 H) := by
  have hsz : w.heap.size + 1 ≤ w4.heap.size := by have h1 := hb.size; simp at h1; exact h1
  have h1 : w5.ownsRow (w.heap.size + 1) 3 1 v' (acc ++ [c]).length (intsV (acc ++ [c])) := by rw [List.length_append, intsV_append]; exact hown5
  have h2 : Below (w.heap.size + 1) (w.alloc (.cells (meshC W H A n cap) 30)) w5 := (hb.alloc hsz _).grown hg (by simp; omega) (fun j hj => (ho.lt j hj).1)
  have tm := (Blk.new w 30 (meshC W H A n cap)).below h2 (by omega)
  refine ⟨h1, h2, ?_, tm.cell 0, tm.cell 1⟩
  obtain ⟨A', c', rfl, _⟩ := own_form h1
  simp [lenW]

set_option maxHeartbeats 1600000 in
theorem implWalk (W H : Int) (A : Option Addr) (n cap : Nat) (L P X : List Int) (g a z : Nat) (hL : WfL L) (w : World) (h : IntAt w w.heap.size A n L) (hn : n ≤ 1000000000)
    (hX : isPorts W H P X) (hb : Blk w g 116 (cellsX X)) (ha : (a : Int) < countG W H) (hz : (z : Int) < countG W H) :
    Calls Try.prog 86 #[.pointer (some ⟨g, 0, none⟩), .agg #[.int .i64 W, .int .i64 H, .slice A n cap], .int .i64 a, .int .i64 z] w (NewW (walkOf W H L P a z) (endsG W H L P a z) w) := by
  obtain ⟨i0, hi, hz0, hz1, hz2⟩ := info_parts info_int
  have HI := Lib.hid h
  have hg := hb.lt
  have HSQ := Lib.hid (fun (wr : World) (h : Below w.heap.size w wr) (x y : Nat) (hx : (x : Int) < countG W H) (hy : (y : Int) < countG W H) => show wr.cell? ⟨g, x * 16 + y, none⟩ = some (.int .i64 (portP (tabG (countG W H) P x y))) by
    have hc := countG_le W H
    rw [Nat.mul_comm x 16]
    exact ((hb.below h hg).cell (16 * x + y)).trans (cellsX_at (by rw [hX.1]; omega) (hX.2 x y hx hy)))
  obtain ⟨res, hres⟩ : ∃ res, walkOf W H L P a z = res := ⟨_, rfl⟩
  obtain ⟨rb, hrb⟩ : ∃ rb, endsG W H L P a z = rb := ⟨_, rfl⟩
  rw [hres, hrb]
  have hsz1 : (w.alloc (.cells (meshC W H A n cap) 30)).heap.size = w.heap.size + 1 := by simp
  have HX := Lib.hid (show WalkTo W H A n cap L P z res rb w [] a (.slice none 0 0) (w.alloc (.cells (meshC W H A n cap) 30)) from
    ⟨ha, Nat.zero_le _, by rw [← hres]; exact (rest_start a z).symm, by rw [← hrb]; rfl, World.ownsRow_nil _ _ _ _, Below.refl _ _⟩)
  have HS1 := Lib.hid hsz1
  have hki := cntN_int W H
  obtain ⟨k, hk⟩ : ∃ k, cntN W H = k := ⟨_, rfl⟩
  have hk1 := cntN_le W H
  rw [hk] at hki hk1
  have HN := Lib.hid (fun w => show Calls Try.prog 85 #[.agg #[.int .i64 W, .int .i64 H]] w (RetI (k : Int) none w) from hki ▸ implNodeCount W H w)
  have HKI := Lib.hid hki
  have HKK := Lib.hid hk
  have HZ := Lib.hid hz
  have ha16 : (a : Int) < 16 := by omega
  have hz16 : (z : Int) < 16 := by omega
  have hgne : ¬ g = w.heap.size := by omega
  have c0 := HSQ.out (w.alloc (.cells (meshC W H A n cap) 30)) (((Below.refl _ _)).alloc (Nat.le_refl _) _) a z ha hz
  obtain ⟨q, hq⟩ : ∃ q, portP (tabG (countG W H) P a z) = q := ⟨_, rfl⟩
  rw [hq] at c0
  have HQ := Lib.hid hq
  clear h hX hb hres hrb hsz1 hki hk ha hz hq
  unfold meshC at c0
  go_enter Try.func86, Try.ntmps86
  go_wp2_with fail
  clear c0
  go_loopw [10, 11, 12] (fun v s11 s12 wr => ∃ (acc : List Int) (x : Nat), s11 = .int .i64 (x : Int) ∧ s12 = .int .i64 (portP (tabG (countG W H) P x z)) ∧ WalkTo W H A n cap L P z res rb w acc x v wr) (fun v _ _ _ => 17 - lenW v)
  case atStart => exact ⟨[], a, rfl, by rw [HQ.out], HX.out⟩
  case round =>
    obtain ⟨acc, x, rfl, rfl, hx, hl, hre, hrb, hown, hbel⟩ := hrel
    rw [HKK.out] at hl hre hrb
    obtain ⟨Aq, capq, rfl, hAq⟩ := own_form hown
    have HOwn := Lib.hid hown
    have HBel := Lib.hid hbel
    have HBo := Lib.hid (below_box hbel)
    obtain ⟨f, hf⟩ : ∃ f, k + 1 - acc.length = f + 1 := ⟨k - acc.length, by omega⟩
    rw [hf] at hre hrb
    have HF := Lib.hid hf
    have HRE := Lib.hid hre
    have HRB := Lib.hid hrb
    have HXC := Lib.hid hx
    have hx16 : (x : Int) < 16 := by have := HKI.out; omega
    obtain ⟨t, ht⟩ : ∃ t, tabG (countG W H) P x z = t := ⟨_, rfl⟩
    rw [ht]
    have HT := Lib.hid ht
    have tm := (Blk.new w 30 (meshC W H A n cap)).below hbel (by omega)
    have a0 : wr.cell? ⟨w.heap.size, 0, none⟩ = some (.int .i64 W) := tm.cell 0
    have a1 : wr.cell? ⟨w.heap.size, 1, none⟩ = some (.int .i64 H) := tm.cell 1
    have a2 : wr.cell? ⟨w.heap.size, 2, none⟩ = some (.slice A n cap) := tm.cell 2
    have hsw : w.heap.size + 1 ≤ wr.heap.size := by have h1 := hbel.size; rw [HS1.out] at h1; exact h1
    clear hown hbel hre hrb hx hf ht tm hAq
    by_cases h4 : t = 4
    · subst h4
      have hp4 : portP 4 = 4 := rfl
      rw [hp4]
      clear a0 a1 a2
      by_cases hxz : x = z
      · subst hxz
        have hxb : ((x : Int) != (x : Int)) = false := by simp
        have HF2 := Lib.hid (HRE.out.trans (rest_end HT.out rfl))
        have HF3 := Lib.hid (HRB.out.trans (restE_end HT.out rfl))
        go_wp2_with fail
        go_ret2
        refine ⟨_, ret_two HF3.out.symm, ?_, HBo.out⟩
        rw [HF2.out]
        exact own_less HOwn.out (by omega)
      · have hne : (x : Int) ≠ (z : Int) := fun e => hxz (by exact_mod_cast e)
        have hxb : ((x : Int) != (z : Int)) = true := bne_iff_ne.2 hne
        have HF2 := Lib.hid (HRE.out.trans (rest_lost HT.out hne))
        have HF3 := Lib.hid (HRB.out.trans (restE_lost HT.out hne))
        clear hxz hne
        go_wp2_with fail
        go_ret2
        refine ⟨_, ret_two HF3.out.symm, ?_, HBo.out⟩
        rw [HF2.out]
        exact World.ownsRow_nil _ _ _ _
    · have H4 := Lib.hid h4
      have h4b : (portP t != 4) = true := bne_iff_ne.2 fun e => h4 (portP_four.1 e)
      obtain ⟨q, hq⟩ : ∃ q, portP t = q := ⟨_, rfl⟩
      have hqb := portP_bounds t
      rw [hq] at h4b hqb ⊢
      by_cases h0 : q < 0
      · have hst : stepsG W H L x t = false := by
          have hs : ¬ (0 ≤ t ∧ t ≤ 3) := fun e => by rw [portP_in e.1 (by omega)] at hq; omega
          simp only [stepsG, Bool.and_eq_false_iff, decide_eq_false_iff_not]; exact .inl hs
        have HF2 := Lib.hid (HRE.out.trans (rest_bad HT.out H4.out hst))
        have HF3 := Lib.hid (HRB.out.trans (restE_bad HT.out H4.out hst))
        have e1 : wrap64 (4 * (x : Int)) = 4 * (x : Int) := IntWalk.wrap64_in _ (by omega)
        have e2 : wrap64 (4 * (x : Int) + q) = 4 * (x : Int) + q := IntWalk.wrap64_in _ (by omega)
        clear hst hq h4 a0 a1 a2
        go_wp2_with fail
        go_ret2
        refine ⟨_, ret_two HF3.out.symm, ?_, HBo.out⟩
        rw [HF2.out]
        exact World.ownsRow_nil _ _ _ _
      · have hqt : t = q := portP_in_of hq (by omega)
        subst hqt
        have ht3 : t ≤ 3 := by omega
        have e1 : wrap64 (4 * (x : Int)) = 4 * (x : Int) := IntWalk.wrap64_in _ (by omega)
        have e2 : wrap64 (4 * (x : Int) + t) = 4 * (x : Int) + t := IntWalk.wrap64_in _ (by omega)
        have hcw : (Lit.int .i64 (4 * (x : Int) + t)).wf = true := WalkArith.wf_i64 (by omega)
        have hi2 := (HI.out.below HBo.out).more (B' := wr.heap.size) (by omega)
        have TM := Lib.hid ((Blk.new w 30 (meshC W H A n cap)).below HBel.out (by omega))
        cases hc : hasChG W H L (4 * (x : Int) + t) with
        | false =>
          have hst : stepsG W H L x t = false := by simp [stepsG, hc]
          have HF2 := Lib.hid (HRE.out.trans (rest_bad HT.out H4.out hst))
          have HF3 := Lib.hid (HRB.out.trans (restE_bad HT.out H4.out hst))
          have HC := Lib.hid (fun w h => implConnects W H A n cap L (4 * (x : Int) + t) false hcw hc w h hn)
          clear hst hq h4 hc hcw
          go_wp2_with fail
          refine (HC.out _ hi2).mono ?_
          rintro e w3 ⟨rfl, hg3⟩
          have G3 := Lib.hid (below_gb HBo.out (Nat.le_refl _) hg3)
          clear hg3 hi2 a0 a1 a2
          go_wp2_with fail
          go_ret2
          refine ⟨_, ret_two HF3.out.symm, ?_, G3.out⟩
          rw [HF2.out]
          exact World.ownsRow_nil _ _ _ _
        | true =>
          have hst : stepsG W H L x t = true := by simp only [stepsG, hc, Bool.and_true, decide_eq_true_eq]; omega
          have HF2 := Lib.hid (HRE.out.trans (rest_go HT.out H4.out hst))
          have HF3 := Lib.hid (HRB.out.trans (restE_go HT.out H4.out hst))
          have HC := Lib.hid (fun w h => implConnects W H A n cap L (4 * (x : Int) + t) true hcw hc w h hn)
          obtain ⟨y, hy⟩ : ∃ y : Nat, nextG W H x t = (y : Int) := ⟨(nextG W H x t).toNat, (Int.toNat_of_nonneg (hasG_iff.1 (step_has hst)).1).symm⟩
          have hyk := (hasG_iff.1 (step_has hst)).2
          rw [hy] at hyk
          have HE := Lib.hid (fun w => implEnd W H (4 * (x : Int) + t) y hcw (by rw [end_step (by omega) ht3, hy]) w)
          have HY := Lib.hid hy
          have HYK := Lib.hid hyk
          clear hst hq h4 hc hcw hy hyk
          go_wp2_with fail
          refine (HC.out _ hi2).mono ?_
          rintro e w3 ⟨rfl, hg3⟩
          have G3 := Lib.hid hg3
          have tm3 := TM.out.grown hg3 (by simp)
          have d0 : w3.cell? ⟨w.heap.size, 0, none⟩ = some (.int .i64 W) := tm3.cell 0
          have d1 : w3.cell? ⟨w.heap.size, 1, none⟩ = some (.int .i64 H) := tm3.cell 1
          clear hg3 hi2 a0 a1 a2 tm3
          go_wp2_with fail
          refine (HN.out _).mono ?_
          rintro e w4 ⟨rfl, hg4⟩
          have G4 := Lib.hid (gb_trans G3.out hg4)
          have TM4 := Lib.hid (TM.out.grown G4.out (by simp))
          clear hg4 d0 d1
          by_cases hlk : acc.length = k
          · have hf0 : f = 0 := by have := HF.out; omega
            have hlb : ((acc.length : Int) == (k : Int)) = true := beq_iff_eq.2 (by omega)
            have G5 := Lib.hid (below_gb HBo.out (Nat.le_refl _) G4.out)
            have HG2 := Lib.hid (show res = [] by rw [HF2.out, hf0]; rfl)
            have HG3 := Lib.hid (show rb = false by rw [HF3.out, hf0]; rfl)
            clear hlk hf0
            go_wp2_with fail
            go_ret2
            refine ⟨_, ret_two HG3.out.symm, ?_, G5.out⟩
            rw [HG2.out]
            exact World.ownsRow_nil _ _ _ _
          · have hlb : ((acc.length : Int) == (k : Int)) = false := beq_false_of_ne (by omega)
            have hown1 := own_none HOwn.out G4.out
            have hsz4 : w.heap.size + 1 ≤ w4.heap.size := Nat.le_trans hsw G4.out.size
            have b3' := Lib.hid (show ∀ u ∈ [Value.int .i64 (4 * (x : Int) + t)], u.oneCell' = true by simp [Value.oneCell'])
            have b4' := Lib.hid (show acc.length + 1 ≤ maxLen by unfold maxLen; omega)
            have HLK := Lib.hid (show acc.length < k by omega)
            have HB4 := Lib.hid (below_gb HBel.out (by rw [HS1.out]; exact Nat.le_refl _) G4.out)
            clear hlk
            go_wp2_with (at_builtin; refine wpList_append_own _ rfl _ _ 28 rfl (w.heap.size + 1) 3 i0 (.int .i64 0) 1 8 Try.underlying28 hi hz0 hz1 hz2 rfl (by decide) _ acc.length _ rfl (hown1.alloc _) ⟨w4.heap.size, 0, none⟩ 1 1 [.int .i64 (4 * (x : Int) + t)] rfl rfl (World.news_of_block (cs := #[.int .i64 (4 * (x : Int) + t)]) (t := 3) (fr := (0, 0)) (heap_alloc_new w4 _)) b3'.out b4'.out (by omega) (by simp; omega) ?_; intro v' w5 hown5 hgrow5 _; obtain ⟨ho5, hb5, hlv, a0, a1⟩ := app_to HB4.out hown1 hown5 hgrow5; have HO5 := Lib.hid ho5; have HB5 := Lib.hid hb5; have HLV := Lib.hid hlv; clear ho5 hb5 hlv hown5 hgrow5 hown1)
            refine (HE.out _).mono ?_
            rintro e w6 ⟨rfl, hg6⟩
            have G6 := Lib.hid hg6
            have HB6 := Lib.hid (below_gb HB5.out (by rw [HS1.out]; exact Nat.le_refl _) hg6)
            have c6 := HSQ.out w6 (below_box HB6.out) y z HYK.out HZ.out
            have y16 : (y : Int) < 16 := by have := HYK.out; have := HKI.out; omega
            obtain ⟨q6, hq6⟩ : ∃ q, portP (tabG (countG W H) P y z) = q := ⟨_, rfl⟩
            rw [hq6] at c6
            have HQ6 := Lib.hid hq6
            clear hg6 a0 a1 hq6
            go_wp2_with fail
            go_roundw
            case rel => exact ⟨acc ++ [4 * (x : Int) + t], y, rfl, by rw [HQ6.out], HYK.out, by rw [HKK.out, List.length_append]; exact HLK.out, by rw [HF2.out, HY.out, HKK.out]; congr 1; have := HF.out; simp; omega, by rw [HF3.out, HY.out, HKK.out]; congr 1; have := HF.out; simp; omega, own_none HO5.out G6.out, HB6.out⟩
            case measure => rw [HLV.out]; simp [lenW]; omega
end Go.Proofs.Ytcmlnokfjbglaaa
end

section
namespace Go.Proofs.Ytcmlnokfjbglaaa
open Go.ChangeShapes Go.WideShapes Go.ChangeAt Go.RowKit
set_option linter.unusedVariables false

/-- The node at the end of a channel. -/
def endC (W H c : Int) : Int := nextG W H (c / 4) (c % 4)
/-- Channel i of a route exists and begins where the one before ends. -/
def linkG (W H : Int) (L r : List Int) (i : Nat) : Bool := hasChG W H L (r.getD i 0) && (decide (i = 0) || decide (r.getD i 0 / 4 = endC W H (r.getD (i - 1) 0)))
def routeG (W H : Int) (L r : List Int) : Bool := meshG W H L && decide (0 < r.length) && (List.range r.length).all (linkG W H L r)
/-- The nodes of the first k channels. -/
def nodesTo (W H : Int) (r : List Int) (k : Nat) : List Int := (r.getD 0 0 / 4) :: (r.take k).map (endC W H)
def nodesG (W H : Int) (L r : List Int) : List Int := if routeG W H L r then nodesTo W H r r.length else []
/-- No number of a list is one of those before it, and there is one. -/
def freeAt (N : List Int) (i : Nat) : Bool := !inG (N.take i) (N.getD i 0)
def freeG (N : List Int) : Bool := decide (0 < N.length) && (List.range N.length).all (freeAt N)
def joinG (W H : Int) (L a b : List Int) : List Int := if routeG W H L (a ++ b) then a ++ b else []
/-- The channel between the same nodes in the other direction. -/
def backC (W H c : Int) : Int := 4 * endC W H c + oppG (c % 4)
/-- The channels back, from the last one on: the first k of them. -/
def backTo (W H : Int) (r : List Int) (k : Nat) : List Int := (r.reverse.take k).map (backC W H)
def backOk (W H : Int) (L r : List Int) : Bool := routeG W H L r && r.all fun c => hasChG W H L (backC W H c)
def backG (W H : Int) (L r : List Int) : List Int := if backOk W H L r then r.reverse.map (backC W H) else []

section
variable {W H : Int} {L r : List Int}
def linksTo (W H : Int) (L r : List Int) (k : Nat) : Prop := ∀ j, j < k → linkG W H L r j = true
theorem links_zero : linksTo W H L r 0 := fun _ h => by omega
theorem links_succ {k : Nat} (h : linksTo W H L r k) (hk : linkG W H L r k = true) : linksTo W H L r (k + 1) := fun j hj => by
  rcases Nat.lt_succ_iff_lt_or_eq.1 hj with h1 | rfl
  · exact h j h1
  · exact hk
theorem route_yes (hm : meshG W H L = true) (h0 : 0 < r.length) (h : linksTo W H L r r.length) : routeG W H L r = true := by
  simp only [routeG, hm, Bool.true_and, decide_eq_true h0, List.all_eq_true, List.mem_range]; exact h
theorem route_no {i : Nat} (hi : i < r.length) (h : linkG W H L r i = false) : routeG W H L r = false := by
  cases hr : routeG W H L r with
  | false => rfl
  | true =>
    simp only [routeG, Bool.and_eq_true, List.all_eq_true, List.mem_range] at hr
    have := hr.2 i hi
    rw [h] at this
    cases this
theorem route_mesh (h : meshG W H L = false) : routeG W H L r = false := by simp [routeG, h]
theorem route_nil : routeG W H L [] = false := by simp [routeG]
theorem route_all (h : routeG W H L r = true) : meshG W H L = true ∧ 0 < r.length ∧ linksTo W H L r r.length := by
  simp only [routeG, Bool.and_eq_true, List.all_eq_true, List.mem_range, decide_eq_true_eq] at h
  exact ⟨h.1.1, h.1.2, h.2⟩
theorem route_pos (h : routeG W H L r = true) : 0 < r.length := (route_all h).2.1
theorem link_has {i : Nat} (h : linkG W H L r i = true) : hasChG W H L (r.getD i 0) = true := by simp only [linkG, Bool.and_eq_true] at h; exact h.1
theorem link_lost {i : Nat} {c : Int} (hc : r.getD i 0 = c) (h : hasChG W H L c = false) : linkG W H L r i = false := by unfold linkG; rw [hc, h, Bool.false_and]
theorem link_first {c : Int} (hc : r.getD 0 0 = c) (h : hasChG W H L c = true) : linkG W H L r 0 = true := by simp only [linkG, hc, h, decide_true, Bool.true_or, Bool.and_self]
theorem link_next {i : Nat} {c x : Int} (hc : r.getD (i + 1) 0 = c) (hx : endC W H (r.getD i 0) = x) (h : hasChG W H L c = true) : linkG W H L r (i + 1) = decide (c / 4 = x) := by
  simp only [linkG, Nat.add_sub_cancel, hc, hx, h, Bool.true_and]
  simp
/-- Where the first k channels have led. -/
def atR (W H : Int) (r : List Int) (k : Nat) : Int := if k = 0 then r.getD 0 0 / 4 else endC W H (r.getD (k - 1) 0)
theorem link_at {k : Nat} {c : Int} (hc : r.getD k 0 = c) (h : hasChG W H L c = true) : linkG W H L r k = decide (c / 4 = atR W H r k) := by
  cases k with
  | zero => rw [link_first hc h, atR, if_pos rfl, hc]; simp
  | succ k => rw [link_next hc rfl h, atR, if_neg (by omega), Nat.add_sub_cancel]
theorem atR_succ (k : Nat) : atR W H r (k + 1) = endC W H (r.getD k 0) := by rw [atR, if_neg (by omega), Nat.add_sub_cancel]
theorem route_snoc {k : Nat} {c : Int} (hk : k < r.length) (hc : r.getD k 0 = c) : r.take (k + 1) = r.take k ++ [c] := by
  rw [List.take_add_one, List.getElem?_eq_getElem hk, ← hc, List.getD_eq_getElem?_getD, List.getElem?_eq_getElem hk]; rfl
theorem nodesTo_zero : nodesTo W H r 0 = [r.getD 0 0 / 4] := rfl
theorem nodesTo_succ {k : Nat} {c : Int} (hk : k < r.length) (hc : r.getD k 0 = c) : nodesTo W H r (k + 1) = nodesTo W H r k ++ [endC W H c] := by
  unfold nodesTo
  rw [route_snoc hk hc]
  simp
theorem nodesTo_len {k : Nat} (hk : k ≤ r.length) : (nodesTo W H r k).length = k + 1 := by simp [nodesTo]; omega
theorem nodesTo_last {k : Nat} (hk : k ≤ r.length) : (nodesTo W H r k).getD k 0 = atR W H r k := by
  cases k with
  | zero => rfl
  | succ k =>
    have hl := nodesTo_len (W := W) (H := H) (r := r) (k := k) (by omega)
    rw [nodesTo_succ (c := r.getD k 0) (by omega) rfl, atR_succ, List.getD_eq_getElem?_getD, List.getElem?_append_right (by omega), hl, Nat.sub_self]
    rfl
theorem nodes_yes (h : routeG W H L r = true) : nodesG W H L r = nodesTo W H r r.length := if_pos h
theorem nodes_no (h : routeG W H L r = false) : nodesG W H L r = [] := by simp [nodesG, h]
theorem nodes_len (h : routeG W H L r = true) : (nodesG W H L r).length = r.length + 1 := by rw [nodes_yes h, nodesTo_len (Nat.le_refl _)]
theorem nodes_pos : decide (0 < (nodesG W H L r).length) = routeG W H L r := by
  cases h : routeG W H L r with
  | false => rw [nodes_no h]; rfl
  | true => rw [nodes_len h]; simp
theorem nodes_le : (nodesG W H L r).length ≤ r.length + 1 := by
  cases h : routeG W H L r with
  | false => rw [nodes_no h]; simp
  | true => exact Nat.le_of_eq (nodes_len h)

def freeTo (N : List Int) (k : Nat) : Prop := ∀ j, j < k → freeAt N j = true
theorem free_zero (N : List Int) : freeTo N 0 := fun _ h => by omega
theorem free_succ {N : List Int} {k : Nat} (h : freeTo N k) (hk : freeAt N k = true) : freeTo N (k + 1) := fun j hj => by
  rcases Nat.lt_succ_iff_lt_or_eq.1 hj with h1 | rfl
  · exact h j h1
  · exact hk
theorem free_yes {N : List Int} (h : freeTo N N.length) : freeG N = decide (0 < N.length) := by
  have : (List.range N.length).all (freeAt N) = true := by simp only [List.all_eq_true, List.mem_range]; exact h
  simp [freeG, this]
theorem free_no {N : List Int} {i : Nat} (hi : i < N.length) (h : freeAt N i = false) : freeG N = false := by
  have : (List.range N.length).all (freeAt N) = false := by rw [List.all_eq_false]; exact ⟨i, List.mem_range.2 hi, by rw [h]; decide⟩
  simp [freeG, this]
theorem free_at {N : List Int} {i : Nat} {x : Int} {b : Bool} (hx : N.getD i 0 = x) (h : inG (N.take i) x = b) : freeAt N i = !b := by simp only [freeAt, hx, h]

theorem back_zero : backTo W H r 0 = [] := rfl
theorem rev_at {k : Nat} {c : Int} (hk : k < r.length) (hc : r.getD (r.length - 1 - k) 0 = c) : r.reverse[k]? = some c := by
  rw [List.getElem?_reverse hk, ← hc, List.getD_eq_getElem?_getD, List.getElem?_eq_getElem (by omega)]; rfl
theorem back_succ {k : Nat} {c : Int} (hk : k < r.length) (hc : r.getD (r.length - 1 - k) 0 = c) : backTo W H r (k + 1) = backTo W H r k ++ [backC W H c] := by
  unfold backTo
  rw [List.take_add_one, rev_at hk hc]
  simp
theorem back_len {k : Nat} (hk : k ≤ r.length) : (backTo W H r k).length = k := by simp [backTo]; omega
theorem back_full : backTo W H r r.length = r.reverse.map (backC W H) := by unfold backTo; rw [List.take_of_length_le (by simp)]
/-- The first k channels back exist. -/
def backsTo (W H : Int) (L r : List Int) (k : Nat) : Prop := ∀ j, j < k → hasChG W H L (backC W H (r.getD (r.length - 1 - j) 0)) = true
theorem backs_zero : backsTo W H L r 0 := fun _ h => by omega
theorem backs_succ {k : Nat} {c : Int} (h : backsTo W H L r k) (hc : r.getD (r.length - 1 - k) 0 = c) (hk : hasChG W H L (backC W H c) = true) : backsTo W H L r (k + 1) := fun j hj => by
  rcases Nat.lt_succ_iff_lt_or_eq.1 hj with h1 | rfl
  · exact h j h1
  · rw [hc]; exact hk
theorem backs_all (h : backsTo W H L r r.length) : (r.all fun c => hasChG W H L (backC W H c)) = true := by
  rw [List.all_eq_true]
  intro c hc
  obtain ⟨j, hj, rfl⟩ := List.getElem_of_mem hc
  have := h (r.length - 1 - j) (by omega)
  rw [show r.length - 1 - (r.length - 1 - j) = j by omega, List.getD_eq_getElem?_getD, List.getElem?_eq_getElem hj] at this
  exact this
theorem backOk_yes (hr : routeG W H L r = true) (h : backsTo W H L r r.length) : backOk W H L r = true := by rw [backOk, hr, backs_all h]; rfl
theorem backOk_no {c : Int} {i : Nat} (hi : i < r.length) (hc : r.getD i 0 = c) (h : hasChG W H L (backC W H c) = false) : backOk W H L r = false := by
  have hm : c ∈ r := by rw [← hc, List.getD_eq_getElem?_getD, List.getElem?_eq_getElem hi]; exact List.getElem_mem hi
  cases hb : backOk W H L r with
  | false => rfl
  | true =>
    simp only [backOk, Bool.and_eq_true, List.all_eq_true] at hb
    have := hb.2 c hm
    rw [h] at this
    cases this
theorem backOk_route (h : routeG W H L r = false) : backOk W H L r = false := by simp [backOk, h]
theorem backG_yes (h : backOk W H L r = true) : backG W H L r = backTo W H r r.length := by rw [backG, if_pos h, back_full]
theorem backG_no (h : backOk W H L r = false) : backG W H L r = [] := by simp [backG, h]
theorem backG_le : (backG W H L r).length ≤ r.length := by
  cases h : backOk W H L r with
  | false => rw [backG_no h]; simp
  | true => rw [backG_yes h, back_len (Nat.le_refl _)]; exact Nat.le_refl _
theorem joinG_yes {a b : List Int} (h : routeG W H L (a ++ b) = true) : joinG W H L a b = a ++ b := if_pos h
theorem joinG_no {a b : List Int} (h : routeG W H L (a ++ b) = false) : joinG W H L a b = [] := by simp [joinG, h]
theorem joinG_le {a b : List Int} : (joinG W H L a b).length ≤ a.length + b.length := by
  unfold joinG
  split
  · simp
  · simp
theorem endC_le (W H c : Int) : -1 ≤ endC W H c ∧ endC W H c ≤ 15 := nextG_le _ _ _ _
theorem oppG_le (p : Int) : -1 ≤ oppG p ∧ oppG p ≤ 4 := by
  unfold oppG
  repeat' split
  all_goals omega
theorem backC_le (W H c : Int) : -5 ≤ backC W H c ∧ backC W H c ≤ 64 := by
  have h1 := endC_le W H c
  have h2 := oppG_le (c % 4)
  unfold backC; omega
theorem has_leads {c : Int} (h : hasChG W H L c = true) : 0 ≤ c ∧ c < 4 * countG W H ∧ 0 ≤ endC W H c := by
  simp only [hasChG, Bool.and_eq_true, leadsG, decide_eq_true_eq] at h
  exact h.1
theorem has_ok {c : Int} (h : hasChG W H L c = true) : okG W H = true := by
  have h1 := (has_leads h).2.2
  unfold endC nextG at h1
  split at h1
  · rename_i hh; exact (hasG_ok hh).1
  · omega
/-- The nodes of the first k channels, the first node being z. -/
def nodesZ (W H : Int) (r : List Int) (z : Int) (k : Nat) : List Int := z :: (r.take k).map (endC W H)
def atZ (W H : Int) (r : List Int) (z : Int) (k : Nat) : Int := if k = 0 then z else endC W H (r.getD (k - 1) 0)
theorem nodesZ_zero (z : Int) : nodesZ W H r z 0 = [z] := rfl
theorem nodesZ_succ {z : Int} {k : Nat} {c : Int} (hk : k < r.length) (hc : r.getD k 0 = c) : nodesZ W H r z (k + 1) = nodesZ W H r z k ++ [endC W H c] := by
  unfold nodesZ
  rw [route_snoc hk hc]
  simp
theorem nodesZ_len {z : Int} {k : Nat} (hk : k ≤ r.length) : (nodesZ W H r z k).length = k + 1 := by simp [nodesZ]; omega
theorem atZ_succ (z : Int) {k : Nat} {c y : Int} (hc : r.getD k 0 = c) (hy : endC W H c = y) : atZ W H r z (k + 1) = y := by rw [atZ, if_neg (by omega), Nat.add_sub_cancel, hc, hy]
theorem link_z {z : Int} {k : Nat} {c : Int} (hz : 0 ≤ r.getD 0 0 → z = r.getD 0 0 / 4) (hc : r.getD k 0 = c) (h : hasChG W H L c = true) (h0 : 0 ≤ c) : linkG W H L r k = decide (c / 4 = atZ W H r z k) := by
  rw [link_at hc h]
  cases k with
  | zero => rw [atR, atZ, if_pos rfl, if_pos rfl, hz (by rw [hc]; exact h0)]
  | succ k => rw [atR, atZ, if_neg (by omega), if_neg (by omega)]
theorem nodes_z {z : Int} (hz : 0 ≤ r.getD 0 0 → z = r.getD 0 0 / 4) (hm : meshG W H L = true) (h0 : 0 < r.length) (h : linksTo W H L r r.length) : nodesG W H L r = nodesZ W H r z r.length := by
  have hl := (has_leads (link_has (h 0 h0))).1
  rw [nodes_yes (route_yes hm h0 h), nodesTo, nodesZ, hz hl]
end
end Go.Proofs.Ytcmlnokfjbglaaa
end

section
namespace Go.Proofs.Ytcmlnokfjbglaaa
open Go.ChangeShapes Go.WideShapes Go.ChangeAt Go.RowKit
set_option linter.unusedVariables false

theorem place_at {W H x y : Int} (hok : okG W H = true) (hx0 : 0 ≤ x) (hx1 : x < W) (hy0 : 0 ≤ y) (hy1 : y < H) :
    hasG W H (y * W + x) = true ∧ (y * W + x) % W = x ∧ (y * W + x) / W = y := by
  obtain ⟨hW, hH⟩ := okG_cases hok
  have hc : countG W H = W * H := by simp [countG, hok]
  rw [hasG_iff, hc]
  rcases hW with rfl | rfl | rfl | rfl <;> rcases hH with rfl | rfl | rfl | rfl <;> omega
theorem atG_of {W H x y : Int} (h : 0 ≤ atG W H x y) : okG W H = true ∧ 0 ≤ x ∧ x < W ∧ 0 ≤ y ∧ y < H ∧ atG W H x y = y * W + x := by
  unfold atG at h ⊢
  split at h
  · rename_i hc
    exact ⟨hc.1, hc.2.1, hc.2.2.1, hc.2.2.2.1, hc.2.2.2.2, by rw [if_pos hc]⟩
  · omega
theorem atG_in {W H x y : Int} (hok : okG W H = true) (hx0 : 0 ≤ x) (hx1 : x < W) (hy0 : 0 ≤ y) (hy1 : y < H) : atG W H x y = y * W + x := by
  unfold atG
  rw [if_pos ⟨hok, hx0, hx1, hy0, hy1⟩]
theorem next0 {W H n : Int} (h : hasG W H n = true) : nextG W H n 0 = atG W H (n % W) (n / W - 1) := by simp [nextG, h]
theorem next1 {W H n : Int} (h : hasG W H n = true) : nextG W H n 1 = atG W H (n % W + 1) (n / W) := by simp [nextG, h]
theorem next2 {W H n : Int} (h : hasG W H n = true) : nextG W H n 2 = atG W H (n % W) (n / W + 1) := by simp [nextG, h]
theorem next3 {W H n : Int} (h : hasG W H n = true) : nextG W H n 3 = atG W H (n % W - 1) (n / W) := by simp [nextG, h]
theorem next4 {W H n : Int} (h : hasG W H n = true) : nextG W H n 4 = n := by simp [nextG, h]

/-- One step to (dx, dy), and back. -/
theorem step_back {W H a b dx dy : Int} (ha : hasG W H a = true) (hb : atG W H (a % W + dx) (a / W + dy) = b) (h0 : 0 ≤ b) (hd : absI dx + absI dy = 1) :
    hasG W H b = true ∧ b % W = a % W + dx ∧ b / W = a / W + dy ∧ distG W H a b = 1 ∧ atG W H (b % W - dx) (b / W - dy) = a := by
  obtain ⟨hok, x0, x1, y0, y1, he⟩ := atG_of (by rw [hb]; exact h0)
  obtain ⟨p1, p2, p3⟩ := place_at hok x0 x1 y0 y1
  have hbe : b = (a / W + dy) * W + (a % W + dx) := by rw [← hb]; exact he
  rw [← hbe] at p1 p2 p3
  obtain ⟨q0, q1, q2, q3, q4⟩ := place_of ha
  refine ⟨p1, p2, p3, ?_, ?_⟩
  · rw [distG_ok ha p1, p2, p3, show a % W - (a % W + dx) = -dx by omega, show a / W - (a / W + dy) = -dy by omega, absI_neg, absI_neg]
    exact hd
  · rw [p2, p3, show a % W + dx - dx = a % W by omega, show a / W + dy - dy = a / W by omega, atG_in hok q0 q1 q2 q3, q4]

/-- What the law on neighbors asks of one port. -/
theorem neigh_fact {W H a q : Int} (ha : hasG W H a = true) (h0 : 0 ≤ q) (h1 : q ≤ 3) :
    ∃ b o : Int, nextG W H a q = b ∧ oppG q = o ∧ 0 ≤ o ∧ o ≤ 3 ∧ o ≠ q ∧ oppG o = q ∧ (0 ≤ b → nextG W H b o = a ∧ distG W H a b = 1) ∧ -1 ≤ b ∧ b ≤ 15 := by
  have hle := nextG_le W H a q
  have hq : q = 0 ∨ q = 1 ∨ q = 2 ∨ q = 3 := by omega
  rcases hq with rfl | rfl | rfl | rfl
  · refine ⟨_, 2, rfl, by decide, by omega, by omega, by omega, by decide, fun hb => ?_, hle⟩
    have hn := next0 ha
    obtain ⟨k1, k2, k3, k4, k5⟩ := step_back (dx := 0) (dy := -1) ha (b := nextG W H a 0) (by rw [hn, show a % W + 0 = a % W by omega, show a / W + -1 = a / W - 1 by omega]) hb (by decide)
    refine ⟨?_, k4⟩
    rw [next2 k1]
    rwa [show nextG W H a 0 % W - 0 = nextG W H a 0 % W by omega, show nextG W H a 0 / W - -1 = nextG W H a 0 / W + 1 by omega] at k5
  · refine ⟨_, 3, rfl, by decide, by omega, by omega, by omega, by decide, fun hb => ?_, hle⟩
    have hn := next1 ha
    obtain ⟨k1, k2, k3, k4, k5⟩ := step_back (dx := 1) (dy := 0) ha (b := nextG W H a 1) (by rw [hn, show a / W + 0 = a / W by omega]) hb (by decide)
    refine ⟨?_, k4⟩
    rw [next3 k1]
    rwa [show nextG W H a 1 / W - 0 = nextG W H a 1 / W by omega] at k5
  · refine ⟨_, 0, rfl, by decide, by omega, by omega, by omega, by decide, fun hb => ?_, hle⟩
    have hn := next2 ha
    obtain ⟨k1, k2, k3, k4, k5⟩ := step_back (dx := 0) (dy := 1) ha (b := nextG W H a 2) (by rw [hn, show a % W + 0 = a % W by omega]) hb (by decide)
    refine ⟨?_, k4⟩
    rw [next0 k1]
    rwa [show nextG W H a 2 % W - 0 = nextG W H a 2 % W by omega] at k5
  · refine ⟨_, 1, rfl, by decide, by omega, by omega, by omega, by decide, fun hb => ?_, hle⟩
    have hn := next3 ha
    obtain ⟨k1, k2, k3, k4, k5⟩ := step_back (dx := -1) (dy := 0) ha (b := nextG W H a 3) (by rw [hn, show a / W + 0 = a / W by omega, show a % W + -1 = a % W - 1 by omega]) hb (by decide)
    refine ⟨?_, k4⟩
    rw [next1 k1]
    rwa [show nextG W H a 3 / W - 0 = nextG W H a 3 / W by omega, show nextG W H a 3 % W - -1 = nextG W H a 3 % W + 1 by omega] at k5
end Go.Proofs.Ytcmlnokfjbglaaa
end

section
namespace Go.Proofs.Ytcmlnokfjbglaaa
open Go.ChangeShapes Go.WideShapes Go.ChangeAt Go.RowKit
set_option linter.unusedVariables false

section
variable {W H : Int} {L r : List Int}
/-- The channel back of a channel that leads somewhere. -/
theorem back_lead {c : Int} (h0 : 0 ≤ c) (h1 : c < 4 * countG W H) (h2 : 0 ≤ endC W H c) : leadsG W H (backC W H c) = true ∧ backC W H c / 4 = endC W H c ∧ endC W H (backC W H c) = c / 4 ∧ backC W H (backC W H c) = c := by
  have ha : hasG W H (c / 4) = true := hasG_iff.2 ⟨by omega, by omega⟩
  obtain ⟨b, o, hb, ho, o0, o3, _, hoo, hbk, _⟩ := neigh_fact (q := c % 4) ha (by omega) (by omega)
  have he : endC W H c = b := hb
  have hbb : backC W H c = 4 * b + o := by rw [backC, he, ho]
  rw [he] at h2 ⊢
  have h4 : (4 * b + o) / 4 = b := by omega
  have h5 : (4 * b + o) % 4 = o := by omega
  have h6 : endC W H (4 * b + o) = c / 4 := by rw [endC, h4, h5]; exact (hbk h2).1
  have hh := (hasG_iff.1 (next_has (W := W) (H := H) (n := c / 4) (p := c % 4) (by rw [hb]; exact h2))).2
  rw [hb] at hh
  rw [hbb]
  refine ⟨?_, h4, h6, ?_⟩
  · have h7 : 0 ≤ nextG W H ((4 * b + o) / 4) ((4 * b + o) % 4) := by show 0 ≤ endC W H (4 * b + o); rw [h6]; omega
    simp only [leadsG, decide_eq_true_eq]
    exact ⟨by omega, by omega, h7⟩
  · rw [backC, h6, h5, hoo]; omega
theorem back_has {c : Int} (h : hasChG W H L c = true) : leadsG W H (backC W H c) = true ∧ backC W H c / 4 = endC W H c ∧ endC W H (backC W H c) = c / 4 ∧ backC W H (backC W H c) = c := by
  obtain ⟨h0, h1, h2⟩ := has_leads h
  exact back_lead h0 h1 h2
theorem route_at (h : routeG W H L r = true) {j : Nat} (hj : j < r.length) : hasChG W H L (r.getD j 0) = true ∧ r.getD j 0 / 4 = atR W H r j := by
  have hl := (route_all h).2.2 j hj
  have hh := link_has hl
  refine ⟨hh, ?_⟩
  rw [link_at rfl hh] at hl
  exact of_decide_eq_true hl
theorem nodes_at (h : routeG W H L r = true) {j : Nat} (hj : j ≤ r.length) : (nodesG W H L r).getD j 0 = atR W H r j := by
  rw [nodes_yes h, nodesTo, List.take_of_length_le (Nat.le_refl _)]
  cases j with
  | zero => rfl
  | succ j => rw [atR_succ, List.getD_cons_succ, List.getD_eq_getElem?_getD, List.getElem?_map, List.getD_eq_getElem?_getD, List.getElem?_eq_getElem (by omega)]; rfl
theorem rev_get (hn : 0 < r.length) {j : Nat} (hj : j < r.length) : (r.reverse.map (backC W H)).getD j 0 = backC W H (r.getD (r.length - 1 - j) 0) := by
  rw [List.getD_eq_getElem?_getD, List.getElem?_map, List.getElem?_reverse hj, List.getD_eq_getElem?_getD, List.getElem?_eq_getElem (by omega)]; rfl
theorem backOk_all (h : backOk W H L r = true) : routeG W H L r = true ∧ ∀ j, j < r.length → hasChG W H L (backC W H (r.getD j 0)) = true := by
  simp only [backOk, Bool.and_eq_true, List.all_eq_true] at h
  refine ⟨h.1, fun j hj => h.2 _ ?_⟩
  rw [List.getD_eq_getElem?_getD, List.getElem?_eq_getElem hj]
  exact List.getElem_mem hj
/-- The route back. -/
theorem back_route (h : backOk W H L r = true) : routeG W H L (backG W H L r) = true ∧ (backG W H L r).length = r.length ∧
    (∀ j, j < r.length → (backG W H L r).getD j 0 = backC W H (r.getD (r.length - 1 - j) 0)) ∧ ∀ j, j ≤ r.length → atR W H (backG W H L r) j = atR W H r (r.length - j) := by
  obtain ⟨hr, hb⟩ := backOk_all h
  have hn := route_pos hr
  have hB : backG W H L r = r.reverse.map (backC W H) := if_pos h
  have hlen : (backG W H L r).length = r.length := by rw [hB]; simp
  have hg : ∀ j, j < r.length → (backG W H L r).getD j 0 = backC W H (r.getD (r.length - 1 - j) 0) := fun j hj => by rw [hB]; exact rev_get hn hj
  have hat : ∀ j, j ≤ r.length → atR W H (backG W H L r) j = atR W H r (r.length - j) := fun j hj => by
    cases j with
    | zero =>
      rw [atR, if_pos rfl, hg 0 hn, (back_has (route_at hr (j := r.length - 1 - 0) (by omega)).1).2.1, atR, if_neg (by omega)]
      congr 2
    | succ j =>
      obtain ⟨q1, q2⟩ := route_at hr (j := r.length - 1 - j) (by omega)
      rw [atR_succ, hg j (by omega), (back_has q1).2.2.1, q2]
      congr 1
      omega
  refine ⟨route_yes (route_all hr).1 (by omega) (fun j hj => ?_), hlen, hg, hat⟩
  rw [hlen] at hj
  have q1 := (route_at hr (j := r.length - 1 - j) (by omega)).1
  rw [link_at (hg j hj) (hb _ (by omega)), hat j (by omega), (back_has q1).2.1, atR, if_neg (by omega)]
  refine decide_eq_true ?_
  congr 2
  omega
theorem back_back (h : backOk W H L r = true) : backOk W H L (backG W H L r) = true ∧ backG W H L (backG W H L r) = r := by
  obtain ⟨hr, hb⟩ := backOk_all h
  obtain ⟨h1, h2, h3, h4⟩ := back_route h
  have hall : backsTo W H L (backG W H L r) (backG W H L r).length := fun j hj => by
    rw [h2] at hj
    rw [h2, h3 _ (by omega)]
    have q1 := (route_at hr (j := r.length - 1 - (r.length - 1 - j)) (by omega)).1
    rw [(back_has q1).2.2.2]
    exact q1
  have hk := backOk_yes h1 hall
  refine ⟨hk, ?_⟩
  obtain ⟨_, g2, g3, _⟩ := back_route hk
  refine List.ext_getElem (by rw [g2, h2]) fun i i1 i2 => ?_
  have e1 := g3 i (by rw [h2]; omega)
  rw [h2, h3 _ (by omega)] at e1
  have q1 := (route_at hr (j := r.length - 1 - (r.length - 1 - i)) (by omega)).1
  rw [(back_has q1).2.2.2] at e1
  rw [List.getD_eq_getElem?_getD, List.getD_eq_getElem?_getD, List.getElem?_eq_getElem (by omega), List.getElem?_eq_getElem (by omega)] at e1
  simp only [Option.getD_some] at e1
  rw [e1]
  congr 1
  omega
theorem back_round (h : backOk W H L r = true) : routeG W H L (r ++ backG W H L r) = true := by
  obtain ⟨hr, hb⟩ := backOk_all h
  obtain ⟨h1, h2, h3, h4⟩ := back_route h
  have ga : ∀ j, j < r.length → (r ++ backG W H L r).getD j 0 = r.getD j 0 := fun j hj => by
    rw [List.getD_eq_getElem?_getD, List.getD_eq_getElem?_getD, List.getElem?_append_left hj]
  have gb : ∀ j, (r ++ backG W H L r).getD (r.length + j) 0 = (backG W H L r).getD j 0 := fun j => by
    rw [List.getD_eq_getElem?_getD, List.getD_eq_getElem?_getD, List.getElem?_append_right (by omega), Nat.add_sub_cancel_left]
  refine route_yes (route_all hr).1 (by rw [List.length_append]; have := route_pos hr; omega) (fun i hi => ?_)
  rw [List.length_append, h2] at hi
  have hn := route_pos hr
  rcases Nat.lt_or_ge i r.length with hlt | hge
  · obtain ⟨q1, q2⟩ := route_at hr hlt
    rw [link_at (ga i hlt) q1, q2]
    refine decide_eq_true ?_
    cases i with
    | zero => rw [atR, atR, if_pos rfl, if_pos rfl, ga 0 hn]
    | succ i => rw [atR_succ, atR_succ, ga i (by omega)]
  · obtain ⟨j, rfl⟩ : ∃ j, i = r.length + j := ⟨i - r.length, by omega⟩
    obtain ⟨q1, q2⟩ := route_at h1 (j := j) (by omega)
    rw [link_at (gb j) q1, q2]
    refine decide_eq_true ?_
    rw [h4 j (by omega)]
    cases j with
    | zero =>
      have : r.length - 0 = r.length := by omega
      rw [this]
      obtain ⟨m, hm⟩ : ∃ m, r.length = m + 1 := ⟨r.length - 1, by omega⟩
      rw [Nat.add_zero, hm, atR_succ, atR_succ, ga m (by omega)]
    | succ j =>
      rw [show r.length + (j + 1) = (r.length + j) + 1 by omega, atR_succ, gb j, ← atR_succ, h4 (j + 1) (by omega)]
/-- Without broken channels every route can be turned back. -/
theorem back_free (h : routeG W H [] r = true) : backOk W H [] r = true := by
  refine backOk_yes h (fun j hj => ?_)
  have q1 := (route_at h (j := r.length - 1 - j) (by omega)).1
  simp only [hasChG, (back_has q1).1, inG]
  rfl

/-- A list grows by a channel that begins where it has led. -/
theorem links_push {c : Int} (h : linksTo W H L r r.length) (hc : hasChG W H L c = true) (hx : 0 < r.length → c / 4 = atR W H r r.length) :
    linksTo W H L (r ++ [c]) (r ++ [c]).length ∧ atR W H (r ++ [c]) (r ++ [c]).length = endC W H c := by
  have ga : ∀ j, j < r.length → (r ++ [c]).getD j 0 = r.getD j 0 := fun j hj => by
    rw [List.getD_eq_getElem?_getD, List.getD_eq_getElem?_getD, List.getElem?_append_left hj]
  have gc : (r ++ [c]).getD r.length 0 = c := by
    rw [List.getD_eq_getElem?_getD, List.getElem?_append_right (Nat.le_refl _), Nat.sub_self]; rfl
  have hl : (r ++ [c]).length = r.length + 1 := by simp
  refine ⟨?_, by rw [hl, atR_succ, gc]⟩
  rw [hl]
  refine links_succ (fun j hj => ?_) ?_
  · have := h j hj
    cases j with
    | zero => rw [linkG, ga 0 hj]; rw [linkG] at this; simpa using this
    | succ j => rw [linkG, ga _ hj, Nat.add_sub_cancel, ga j (by omega)]; rw [linkG, Nat.add_sub_cancel] at this; exact this
  · rw [link_at gc hc]
    refine decide_eq_true ?_
    rcases Nat.eq_zero_or_pos r.length with h0 | h0
    · rw [h0, atR, if_pos rfl]
      rw [h0] at gc
      rw [gc]
    · rw [hx h0]
      obtain ⟨m, hm⟩ : ∃ m, r.length = m + 1 := ⟨r.length - 1, by omega⟩
      rw [hm, atR_succ, atR_succ, ga m (by omega)]

variable {P : List Int}
/-- A walk of a table, channel by channel. -/
theorem walk_cases {z a : Int} {f : Nat} {l : List Int} (h : walkF W H L P z (f + 1) a = some l) :
    (l = [] ∧ a = z) ∨ ∃ c t, l = c :: t ∧ c = 4 * a + tabG (countG W H) P a z ∧ hasChG W H L c = true ∧ c / 4 = a ∧ c % 4 = tabG (countG W H) P a z ∧ walkF W H L P z f (endC W H c) = some t := by
  rw [walkF] at h
  split at h
  · split at h
    · rename_i e
      cases h
      exact .inl ⟨rfl, e⟩
    · cases h
  · split at h
    · rename_i h4 hs
      rw [Option.map_eq_some_iff] at h
      obtain ⟨t, ht, rfl⟩ := h
      obtain ⟨p0, p3, hc⟩ := steps_next hs
      have e1 : (4 * a + tabG (countG W H) P a z) / 4 = a := by omega
      have e2 : (4 * a + tabG (countG W H) P a z) % 4 = tabG (countG W H) P a z := by omega
      exact .inr ⟨_, t, rfl, rfl, hc, e1, e2, by rw [endC, e1, e2]; exact ht⟩
    · cases h
theorem walk_det {z : Int} : ∀ (f g : Nat) (a : Int) (l m : List Int), walkF W H L P z f a = some l → walkF W H L P z g a = some m → l = m
  | 0, _, _, _, _, h, _ => by simp [walkF] at h
  | _ + 1, 0, _, _, _, _, h => by simp [walkF] at h
  | f + 1, g + 1, a, l, m, h1, h2 => by
    rw [walkF] at h1 h2
    split at h1
    · rename_i h4
      rw [if_pos h4] at h2
      split at h1
      · rename_i e
        rw [if_pos e] at h2
        cases h1; cases h2; rfl
      · cases h1
    · rename_i h4
      rw [if_neg h4] at h2
      split at h1
      · rename_i hs
        rw [if_pos hs] at h2
        rw [Option.map_eq_some_iff] at h1 h2
        obtain ⟨t, ht, rfl⟩ := h1
        obtain ⟨u, hu, rfl⟩ := h2
        rw [walk_det f g _ t u ht hu]
      · cases h1
/-- What lies behind the first j channels of a walk is the walk from where they lead. -/
theorem walk_drop {z : Int} : ∀ (f : Nat) (a : Int) (l : List Int), walkF W H L P z f a = some l → ∀ j, j ≤ l.length →
    ∃ g, walkF W H L P z g (if j = 0 then a else endC W H (l.getD (j - 1) 0)) = some (l.drop j)
  | 0, _, _, h, _, _ => by simp [walkF] at h
  | f + 1, a, l, h, 0, _ => ⟨f + 1, by rw [if_pos rfl]; exact h⟩
  | f + 1, a, l, h, j + 1, hj => by
    rcases walk_cases h with ⟨rfl, _⟩ | ⟨c, t, rfl, _, _, _, _, ht⟩
    · simp at hj
    · obtain ⟨g, hg⟩ := walk_drop f _ t ht j (by simpa using hj)
      refine ⟨g, ?_⟩
      rw [if_neg (by omega), Nat.add_sub_cancel, List.drop_succ_cons]
      cases j with
      | zero => rw [if_pos rfl] at hg; exact hg
      | succ j => rw [if_neg (by omega), Nat.add_sub_cancel] at hg; rw [List.getD_cons_succ]; exact hg
theorem walk_links {z : Int} : ∀ (f : Nat) (a : Int) (l : List Int), walkF W H L P z f a = some l → linksTo W H L l l.length ∧ (0 < l.length → l.getD 0 0 / 4 = a ∧ l.getD 0 0 % 4 = tabG (countG W H) P a z ∧ atR W H l l.length = z) ∧ (l = [] → a = z)
  | 0, _, _, h => by simp [walkF] at h
  | f + 1, a, l, h => by
    rcases walk_cases h with ⟨rfl, e⟩ | ⟨c, t, rfl, hc, hh, h4, h5, ht⟩
    · exact ⟨links_zero, fun h => absurd h (by simp), fun _ => e⟩
    · obtain ⟨h1, h2, h3⟩ := walk_links f _ t ht
      refine ⟨fun j hj => ?_, fun _ => ⟨h4, h5, ?_⟩, fun e => by cases e⟩
      · cases j with
        | zero => exact link_first rfl hh
        | succ j =>
          have hj' : j < t.length := by simpa using hj
          have q := h1 j hj'
          have qh := link_has q
          rw [link_next (c := t.getD j 0) (x := endC W H ((c :: t).getD j 0)) (by rw [List.getD_cons_succ]) rfl qh]
          refine decide_eq_true ?_
          cases j with
          | zero => exact (h2 (by omega)).1
          | succ j =>
            rw [link_at rfl qh, atR_succ] at q
            rw [List.getD_cons_succ]
            exact of_decide_eq_true q
      · rw [List.length_cons, atR_succ]
        cases t with
        | nil => exact h3 rfl
        | cons d u =>
          have q := (h2 (by simp)).2.2
          rw [List.length_cons, atR_succ] at q
          rw [List.length_cons, List.getD_cons_succ]
          exact q
theorem walk_free {z a : Int} {f : Nat} {l : List Int} (h : walkF W H L P z f a = some l) (hm : meshG W H L = true) (h0 : 0 < l.length) : routeG W H L l = true ∧ freeG (nodesG W H L l) = true := by
  obtain ⟨h1, h2, _⟩ := walk_links f a l h
  have hr := route_yes hm h0 h1
  refine ⟨hr, ?_⟩
  have hlen := nodes_len hr
  rw [free_yes, hlen]
  · simp
  · intro i hi
    rw [hlen] at hi
    refine free_at (b := false) rfl (inG_no fun j hj => ?_)
    rw [List.length_take, hlen] at hj
    have hji : j < i := by omega
    rw [List.getD_eq_getElem?_getD, List.getElem?_take_of_lt hji, ← List.getD_eq_getElem?_getD, nodes_at hr (by omega), nodes_at hr (by omega)]
    intro e
    have hat : ∀ k, k ≤ l.length → (if k = 0 then a else endC W H (l.getD (k - 1) 0)) = atR W H l k := fun k hk => by
      unfold atR
      split
      · exact (h2 h0).1.symm
      · rfl
    obtain ⟨g1, w1⟩ := walk_drop f a l h j (by omega)
    obtain ⟨g2, w2⟩ := walk_drop f a l h i (by omega)
    rw [hat j (by omega), e] at w1
    rw [hat i (by omega)] at w2
    have := congrArg List.length (walk_det g1 g2 _ _ _ w1 w2)
    rw [List.length_drop, List.length_drop] at this
    omega
end
end Go.Proofs.Ytcmlnokfjbglaaa
end
