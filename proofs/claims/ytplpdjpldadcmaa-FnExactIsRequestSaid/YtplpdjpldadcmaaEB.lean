/- What is proved here: a network that came in as an argument is numbers and slices that can be read; nothing of the program; the laws' copies of lists of lists of flits; only new blocks are written; the laws' copies of networks; only new blocks are written; when a network is valid, part by part; a network's box; nothing of the program; which port an input of a node wants, where there is room, and which requests there are, as mathematics; nothing of the program; what the model's test of a range returns, and small facts on a box; nothing of the program; what the model's GridOk and NodeCount return, for all arguments; only new blocks are written; whether the model finds a node in a grid; only new blocks are written; what the model's NodeAt returns, for all arguments; only new blocks are written; what the model's NextNode, Opposite, PortName and its test of a channel return, for all arguments; only new blocks are written; the model's port that an input wants, for a network whose lists have their lengths; nothing is written but new blocks; what the model's search in a list returns, for all arguments; nothing is written; What is stated here: a mesh as the cells of a block, and a mesh whose first broken channels are good; nothing of the program; what the model's MeshOk, its search in a list and its test of a channel of a mesh return, for all arguments; only new blocks are written; what the model's test of a channel of a mesh returns, for all arguments; only new blocks are written; what the model's Opposite returns, for all arguments; only new blocks are written; the model's room behind an output, for a network whose lists have their lengths; nothing is written but new blocks; whether the model's input requests an output, for a network whose lists have their lengths; nothing is written but new blocks; a mesh and a pair of tables in boxes of a call's own; nothing of the program; two boxed arguments stay known behind a call, and the number of pairs of nodes is small; nothing of the program; what the model's test of a table's size returns, for all arguments; only new blocks are written; what the model's walk of a table returns for a table of the right size; only new blocks are written; what holds of the two boxes that the model's functions on tables lay; what the model's TableOk returns, for all arguments; only new blocks are written; the model's TableOk with its answer named, and a small fact on draws; only new blocks are written; the model's classes: whether both tables are valid; only new blocks are written; whether the model says that the flits of a list go to nodes of the grid in classes that there are; only new blocks are written. -/
import Derived.Test.YtplpdjpldadcmaaEA
import Derived.Lib.SmallJoins
import Derived.Deep.RegionLaw
import Derived.Deep.RegionHeld3
section
namespace Go.Proofs.Ytplpdjpldadcmaa
open Go.ChangeShapes Go.WideShapes Go.ChangeAt Go.RowKit
set_option linter.unusedVariables false

/-- The numbers in a network fit into 64 bits. -/
structure NetWf (N : Nt) : Prop where
  W : (Lit.int .i64 N.W).wf = true
  H : (Lit.int .i64 N.H).wf = true
  ti : (Lit.int .i64 N.ti).wf = true
  br : ∀ x ∈ N.br, (Lit.int .i64 x).wf = true
  ta : ∀ x ∈ N.ta, (Lit.int .i64 x).wf = true
  tb : ∀ x ∈ N.tb, (Lit.int .i64 x).wf = true
  ow : ∀ x ∈ N.ow, (Lit.int .i64 x).wf = true
  tu : ∀ x ∈ N.tu, (Lit.int .i64 x).wf = true
  bu : ∀ D ∈ N.bu, ∀ d ∈ D, wfF d
  so : ∀ D ∈ N.so, ∀ d ∈ D, wfF d
  ar : ∀ D ∈ N.ar, ∀ d ∈ D, wfF d
theorem eleven_array {α : Type} {cs : Array α} (h : cs.size = 11) : ∃ c0 c1 c2 c3 c4 c5 c6 c7 c8 c9 c10, cs = #[c0, c1, c2, c3, c4, c5, c6, c7, c8, c9, c10] := by
  obtain ⟨l⟩ := cs
  match l, h with
  | [c0, c1, c2, c3, c4, c5, c6, c7, c8, c9, c10], _ => exact ⟨c0, c1, c2, c3, c4, c5, c6, c7, c8, c9, c10, rfl⟩
section
variable {H : Type} {enc : TypeId × Value → H} {w : World} {spare : Nat → Bool} {held : Bool} {base fuel : Nat}
set_option maxRecDepth 100000 in
theorem open_net {r : Reach} {b0 : Nat} {v : Value} {d : DataW H} {p : List MemPlace}
    (hv : Value.okWide Try.prog w r b0 33 v) (h : DataW.Trod enc Try.prog w base spare held 33 v d p) :
    ∃ (y : Na) (N : Nt), v = .agg #[.int .i64 N.W, .int .i64 N.H, .slice y.br.A N.br.length y.br.c, .slice y.ta.A N.ta.length y.ta.c, .slice y.tb.A N.tb.length y.tb.c, .slice y.bu.A N.bu.length y.bu.c, .slice y.ow.A N.ow.length y.ow.c, .slice y.tu.A N.tu.length y.tu.c, .slice y.so.A N.so.length y.so.c, .slice y.ar.A N.ar.length y.ar.c, .int .i64 N.ti] ∧ NetCap y N ∧ NetIn w w.heap.size y N ∧ NetWf N := by
  obtain ⟨cs, rfl, hsz⟩ := okWide_struct Try.underlying33 hv
  have hC : Try.prog.cellsOf 33 = 11 := by kernel_rfl
  have hM : Try.prog.cellsOf 26 = 3 := by kernel_rfl
  have hG : Try.prog.cellsOf 23 = 2 := by kernel_rfl
  have hL : Try.prog.cellsOf 30 = 2 := by kernel_rfl
  have hT : Try.prog.cellsOf 28 = 1 := by kernel_rfl
  have hS : Try.prog.cellsOf 24 = 1 := by kernel_rfl
  have hF : Try.prog.cellsOf 31 = 1 := by kernel_rfl
  have hI : Try.prog.cellsOf 3 = 1 := by kernel_rfl
  obtain ⟨c0, c1, c2, c3, c4, c5, c6, c7, c8, c9, c10, rfl⟩ := eleven_array (hsz.trans hC)
  obtain ⟨fuel, hf⟩ := h
  obtain ⟨xs, k, _, _, _, hxl, hh⟩ := DataW.trod_struct Try.underlying33 hf
  match xs, hxl with
  | [y0, y1, y2, y3, y4, y5, y6, y7], _ =>
    have g0 := hh 0 _ rfl
    have g1 := hh 1 _ rfl
    have g2 := hh 2 _ rfl
    have g3 := hh 3 _ rfl
    have g4 := hh 4 _ rfl
    have g5 := hh 5 _ rfl
    have g6 := hh 6 _ rfl
    have g7 := hh 7 _ rfl
    simp [Value.cells, hM, hL, hF, hS, hI] at g0 g1 g2 g3 g4 g5 g6 g7
    obtain ⟨z0, z1, m, _, _, gg, gb⟩ := trod_struct2 Try.underlying26 g0
    simp [hG, hS] at gg gb
    obtain ⟨z2, z3, m2, _, _, gw, gh⟩ := trod_struct2 Try.underlying23 gg
    simp [hI] at gw gh
    obtain ⟨u0, u1, m3, _, _, ga, gc⟩ := trod_struct2 Try.underlying30 g1
    simp [hT] at ga gc
    obtain ⟨u2, m4, _, _, ga2⟩ := trod_struct1 Try.underlying28 ga
    obtain ⟨u3, m5, _, _, gc2⟩ := trod_struct1 Try.underlying28 gc
    simp [hS] at ga2 gc2
    obtain ⟨W, e0, _, w0⟩ := DataW.trod_int Try.underlying3 gw
    obtain ⟨Hh, e1, _, w1⟩ := DataW.trod_int Try.underlying3 gh
    obtain ⟨Ti, e10, _, w10⟩ := DataW.trod_int Try.underlying3 g7
    obtain ⟨Abr, nbr, cbr, Lbr, e2, ibr1, ibr2, ibr3, ibr4⟩ := open_intS gb
    obtain ⟨Ata, nta, cta, Lta, e3, ita1, ita2, ita3, ita4⟩ := open_intS ga2
    obtain ⟨Atb, ntb, ctb, Ltb, e4, itb1, itb2, itb3, itb4⟩ := open_intS gc2
    obtain ⟨Abu, nbu, cbu, Lbu, e5, ibu1, ibu2, ibu3, ibu4⟩ := open_fltSS g2
    obtain ⟨Aow, now, cow, Low, e6, iow1, iow2, iow3, iow4⟩ := open_intS g3
    obtain ⟨Atu, ntu, ctu, Ltu, e7, itu1, itu2, itu3, itu4⟩ := open_intS g4
    obtain ⟨Aso, nso, cso, Lso, e8, iso1, iso2, iso3, iso4⟩ := open_fltSS g5
    obtain ⟨Aar, nar, car, Lar, e9, iar1, iar2, iar3, iar4⟩ := open_fltSS g6
    simp at e0 e1 e2 e3 e4 e5 e6 e7 e8 e9 e10
    subst e0 e1 e2 e3 e4 e5 e6 e7 e8 e9 e10
    have hlbr := ibr3.1
    subst hlbr
    have hlta := ita3.1
    subst hlta
    have hltb := itb3.1
    subst hltb
    have hlbu := ibu3.1
    subst hlbu
    have hlow := iow3.1
    subst hlow
    have hltu := itu3.1
    subst hltu
    have hlso := iso3.1
    subst hlso
    have hlar := iar3.1
    subst hlar
    exact ⟨⟨⟨Abr, cbr⟩, ⟨Ata, cta⟩, ⟨Atb, ctb⟩, ⟨Abu, cbu⟩, ⟨Aow, cow⟩, ⟨Atu, ctu⟩, ⟨Aso, cso⟩, ⟨Aar, car⟩⟩, ⟨W, Hh, Lbr, Lta, Ltb, Lbu, Low, Ltu, Lso, Lar, Ti⟩, rfl, ⟨⟨ibr1, ibr2⟩, ⟨ita1, ita2⟩, ⟨itb1, itb2⟩, ⟨ibu1, ibu2⟩, ⟨iow1, iow2⟩, ⟨itu1, itu2⟩, ⟨iso1, iso2⟩, ⟨iar1, iar2⟩⟩, ⟨ibr3, ita3, itb3, iow3, itu3, ibu3, iso3, iar3⟩, ⟨w0, w1, w10, ibr4, ita4, itb4, iow4, itu4, ibu4, iso4, iar4⟩⟩
end
end Go.Proofs.Ytplpdjpldadcmaa
end

section
namespace Go.Proofs.Ytplpdjpldadcmaa
open Go.ChangeShapes Go.WideShapes Go.ChangeAt Go.RowKit
set_option linter.unusedVariables false
set_option maxRecDepth 20000

theorem info_fss : (Try.prog.info? 83).map (fun i => (i.zero, i.size, i.bytes)) = some (some (.slice none 0 0), 1, 24) := by kernel_rfl
theorem made_nils (n : Nat) : (madeCells (Value.slice none 0 0).cells (n * 1)).toList = List.replicate n (.slice none 0 0) := by
  apply List.ext_getElem?
  intro j
  by_cases hj : j < n
  · simp [madeCells, Value.cells, hj, Nat.mod_one]
  · rw [List.getElem?_eq_none (by simp [madeCells]; omega), List.getElem?_eq_none (by simp; omega)]
theorem set_rep {α : Type} (vs : List α) (x u : α) (n : Nat) (h : vs.length < n) : (vs ++ List.replicate (n - vs.length) x).set vs.length u = (vs ++ [u]) ++ List.replicate (n - (vs ++ [u]).length) x := by
  obtain ⟨m, hm⟩ : ∃ m, n - vs.length = m + 1 := ⟨n - vs.length - 1, by omega⟩
  rw [List.set_append_right _ _ (Nat.le_refl _), Nat.sub_self, hm, List.replicate_succ, List.set_cons_zero, List.length_append, List.length_singleton, show n - (vs.length + 1) = m by omega, List.append_assoc]
  rfl
/-- A new list of lists. -/
def NewFSS (DD : List (List Flt)) (w : World) (e : Ending) (w' : World) : Prop :=
  ∃ g vs, e = .returned (.slice (some ⟨g, 0, none⟩) DD.length DD.length) ∧ Fams 83 85 5 fltC w' w.heap.size (.slice (some ⟨g, 0, none⟩) DD.length DD.length) vs DD ∧ Below w.heap.size w w'

set_option maxHeartbeats 3200000 in
theorem lawsToFSS (A : Option Addr) (n cap : Nat) (DD : List (List Flt)) (w : World) (h : RecsAt 5 fltC w w.heap.size A n DD) (hn : n ≤ 1048576) (hs : sumL DD ≤ 1048576) :
    Calls Try.prog 31 #[.slice A n cap] w (NewFSS DD w) := by
  obtain ⟨i0, hi, hz0, hz1, hz2⟩ := info_parts info_fss
  have hl := h.1
  have HI := Lib.hid h
  clear h
  go_enter Try.func31, Try.ntmps31
  go_wp2_with (at_make; refine wpList_make_full _ rfl _ _ 42 rfl w.heap.size 83 i0 (.slice none 0 0) 1 Try.underlying42 hi hz0 hz1 .i64 .i64 _ _ n rfl rfl (by omega) (by omega) (by rw [hz2]; omega) (by unfold maxLen; omega) (Nat.le_refl _) ?_; intro w0 hown0 hgrow0)
  rw [made_nils] at hown0
  have HO := Lib.hid hown0
  have HB := Lib.hid (gb_below_none hgrow0 (Nat.le_refl _))
  clear hown0 hgrow0
  go_loopw [4] (fun i wr => ∃ (k : Nat) (vs : List Value), k ≤ n ∧ i = .int .i64 (k : Int) ∧ vs.length = k ∧ wr.ownsRow w.heap.size 83 1 (.slice (some ⟨w.heap.size, 0, none⟩) n n) n (vs ++ List.replicate (n - vs.length) (.slice none 0 0)) ∧ Fam 85 5 fltC wr w.heap.size vs (DD.take k) ∧ Below w.heap.size w wr) (fun i _ => n - (intOf i).toNat)
  case atStart => exact ⟨0, [], Nat.zero_le _, rfl, rfl, by simpa using HO.out, by rw [List.take_zero]; exact Fam.nil _ _, HB.out⟩
  case round =>
    obtain ⟨k, vs, hk, rfl, hvl, ho, hf, hbel⟩ := hrel
    have HO1 := Lib.hid ho
    have HF1 := Lib.hid hf
    have HB1 := Lib.hid hbel
    by_cases hlt : k < n
    · obtain ⟨b, off, D, A', c', rfl, hb, hD, hc, _, hr⟩ := (HI.out.below hbel).at k hlt
      have hat := sumL_at hD
      have hsz := hbel.size
      have HT := Lib.hid (lawsToFltS A' D.length c' D wr (hr.more hsz) (by omega))
      have k0 : (0 : Int) ≤ (k : Int) := by omega
      have k1 : (k : Int) < (n : Int) := by omega
      have HDD := Lib.hid (show DD.take (k + 1) = DD.take k ++ [D] by
        have hkD := (List.getElem?_eq_some_iff.1 hD).1
        have e : DD[k] = D := (List.getElem?_eq_some_iff.1 hD).2
        rw [List.take_succ_eq_append_getElem hkD, e])
      have HVL := Lib.hid hvl
      have HS := Lib.hid hsz
      clear ho hf hbel hD hat hr hvl
      go_wp2_with fail
      refine HT.out.mono ?_
      rintro e w4 ⟨g4, rfl, o4, b4⟩
      have hb4 := gb_of_below b4 none
      have hoh := own_none HO1.out hb4
      have HF4 := Lib.hid (HF1.out.gb hb4)
      have HR4 := Lib.hid (own_less o4 HS.out)
      have HA4 := Lib.hid (show ∀ (i : Nat) u, vs[i]? = some u → Apart u (.slice (some ⟨g4, 0, none⟩) D.length D.length) from fun i u hu j h1 h2 => by
        have h3 := (HF1.out.lt hu h1).2
        have h4 := (o4.lt j h2).1
        omega)
      have HB4 := Lib.hid (HB1.out.trans (b4.mono HS.out))
      have hcell := hoh.cellAt k (by omega)
      have hlen : k < (vs ++ List.replicate (n - vs.length) (Value.slice none 0 0)).length := by have := HVL.out; simp; omega
      obtain ⟨x, hx⟩ : ∃ x, (vs ++ List.replicate (n - vs.length) (Value.slice none 0 0))[k]? = some x := ⟨_, List.getElem?_eq_getElem hlen⟩
      rw [hx] at hcell
      have hfz := hoh.frozenAt k
      obtain ⟨o5, g5⟩ := hoh.stored k (.slice (some ⟨g4, 0, none⟩) D.length D.length)
      have hset := set_rep vs (Value.slice none 0 0) (.slice (some ⟨g4, 0, none⟩) D.length D.length) n (by have := HVL.out; omega)
      rw [HVL.out] at hset
      have HRW := Lib.hid hoh
      rw [HVL.out, hset] at o5
      have HO5 := Lib.hid o5
      have HF5 := Lib.hid ((HF4.out.kept g5 (fun i v j hv hj e => by
        have hi := (List.getElem?_eq_some_iff.1 hv).1
        obtain ⟨u, hu, hou⟩ := HF4.out.get (i := i) (by rw [← HF4.out.len]; exact hi)
        rw [hv] at hu
        obtain rfl := Option.some.inj hu
        exact own_typesG HRW.out hou (by decide) (k := j) (by rw [← e]; rfl) hj)).snoc (row_keptR HR4.out g5 (fun j e1 e2 => own_typesG HRW.out HR4.out (by decide) (k := j) (by rw [← e1]; rfl) e2)) HA4.out)
      have HB5 := Lib.hid (HB4.out.grown g5 HB4.out.size (fun j e => by cases e; exact Nat.le_refl _))
      clear hb4 hoh hlen hx o4 b4 o5 g5 hset hc
      go_wp2_with fail
      go_roundw
      case rel => exact ⟨k + 1, vs ++ [.slice (some ⟨g4, 0, none⟩) D.length D.length], by omega, by go_num, by rw [List.length_append, HVL.out]; rfl, HO5.out, by rw [HDD.out]; exact HF5.out, HB5.out⟩
      case measure => simp [intOf]; omega
    · have hkn : k = n := by omega
      have HKN := Lib.hid hkn
      have HVL := Lib.hid hvl
      clear ho hf hbel hkn hvl
      go_wp2_with fail
      go_ret
      refine ⟨w.heap.size, vs, by rw [hl]; rfl, ⟨?_, ?_⟩, HB1.out⟩
      · have h9 := HO1.out
        rw [HVL.out, HKN.out, Nat.sub_self, List.replicate_zero, List.append_nil] at h9
        rw [hl]
        exact h9
      · have h9 := HF1.out
        rw [HKN.out, ← hl, List.take_length] at h9
        exact h9
end Go.Proofs.Ytplpdjpldadcmaa
end

section
namespace Go.Proofs.Ytplpdjpldadcmaa
open Go.ChangeShapes Go.WideShapes Go.ChangeAt Go.RowKit
set_option linter.unusedVariables false
set_option maxRecDepth 20000

theorem size_set (w : World) (p : Addr) (u : Value) : (w.setCell p u).heap.size = w.heap.size := by simp [World.setCell]
set_option maxHeartbeats 6400000 in
theorem lawsToNet (y : Na) (N : Nt) (w : World) (h : NetIn w w.heap.size y N) (hs : sizeN N ≤ 1048576) :
    Calls Try.prog 9 #[.agg #[.int .i64 N.W, .int .i64 N.H, .slice y.br.A N.br.length y.br.c, .slice y.ta.A N.ta.length y.ta.c, .slice y.tb.A N.tb.length y.tb.c, .slice y.bu.A N.bu.length y.bu.c, .slice y.ow.A N.ow.length y.ow.c, .slice y.tu.A N.tu.length y.tu.c, .slice y.so.A N.so.length y.so.c, .slice y.ar.A N.ar.length y.ar.c, .int .i64 N.ti]] w (NewNet N w) := by
  have HIN := Lib.hid h
  have HSM := Lib.hid hs
  have k0 := ((Blk.new w 33 #[.int .i64 N.W, .int .i64 N.H, .slice y.br.A N.br.length y.br.c, .slice y.ta.A N.ta.length y.ta.c, .slice y.tb.A N.tb.length y.tb.c, .slice y.bu.A N.bu.length y.bu.c, .slice y.ow.A N.ow.length y.ow.c, .slice y.tu.A N.tu.length y.tu.c, .slice y.so.A N.so.length y.so.c, .slice y.ar.A N.ar.length y.ar.c, .int .i64 N.ti]).alloc (.cells #[.int .i64 0, .int .i64 0, .slice none 0 0, .slice none 0 0, .slice none 0 0, .slice none 0 0, .slice none 0 0, .slice none 0 0, .slice none 0 0, .slice none 0 0, .int .i64 0] 44)).alloc (.cells #[.int .i64 0, .int .i64 0, .slice none 0 0, .slice none 0 0, .slice none 0 0, .slice none 0 0, .slice none 0 0, .slice none 0 0, .slice none 0 0, .slice none 0 0, .int .i64 0] 44)
  have k1 := (Blk.new (w.alloc (.cells #[.int .i64 N.W, .int .i64 N.H, .slice y.br.A N.br.length y.br.c, .slice y.ta.A N.ta.length y.ta.c, .slice y.tb.A N.tb.length y.tb.c, .slice y.bu.A N.bu.length y.bu.c, .slice y.ow.A N.ow.length y.ow.c, .slice y.tu.A N.tu.length y.tu.c, .slice y.so.A N.so.length y.so.c, .slice y.ar.A N.ar.length y.ar.c, .int .i64 N.ti] 33)) 44 #[.int .i64 0, .int .i64 0, .slice none 0 0, .slice none 0 0, .slice none 0 0, .slice none 0 0, .slice none 0 0, .slice none 0 0, .slice none 0 0, .slice none 0 0, .int .i64 0]).alloc (.cells #[.int .i64 0, .int .i64 0, .slice none 0 0, .slice none 0 0, .slice none 0 0, .slice none 0 0, .slice none 0 0, .slice none 0 0, .slice none 0 0, .slice none 0 0, .int .i64 0] 44)
  have k2 := Blk.new ((w.alloc (.cells #[.int .i64 N.W, .int .i64 N.H, .slice y.br.A N.br.length y.br.c, .slice y.ta.A N.ta.length y.ta.c, .slice y.tb.A N.tb.length y.tb.c, .slice y.bu.A N.bu.length y.bu.c, .slice y.ow.A N.ow.length y.ow.c, .slice y.tu.A N.tu.length y.tu.c, .slice y.so.A N.so.length y.so.c, .slice y.ar.A N.ar.length y.ar.c, .int .i64 N.ti] 33)).alloc (.cells #[.int .i64 0, .int .i64 0, .slice none 0 0, .slice none 0 0, .slice none 0 0, .slice none 0 0, .slice none 0 0, .slice none 0 0, .slice none 0 0, .slice none 0 0, .int .i64 0] 44)) 44 #[.int .i64 0, .int .i64 0, .slice none 0 0, .slice none 0 0, .slice none 0 0, .slice none 0 0, .slice none 0 0, .slice none 0 0, .slice none 0 0, .slice none 0 0, .int .i64 0]
  have ge := gb_alloc (gb_alloc (gb_alloc (gb_refl w none) (.cells #[.int .i64 N.W, .int .i64 N.H, .slice y.br.A N.br.length y.br.c, .slice y.ta.A N.ta.length y.ta.c, .slice y.tb.A N.tb.length y.tb.c, .slice y.bu.A N.bu.length y.bu.c, .slice y.ow.A N.ow.length y.ow.c, .slice y.tu.A N.tu.length y.tu.c, .slice y.so.A N.so.length y.so.c, .slice y.ar.A N.ar.length y.ar.c, .int .i64 N.ti] 33)) (.cells #[.int .i64 0, .int .i64 0, .slice none 0 0, .slice none 0 0, .slice none 0 0, .slice none 0 0, .slice none 0 0, .slice none 0 0, .slice none 0 0, .slice none 0 0, .int .i64 0] 44)) (.cells #[.int .i64 0, .int .i64 0, .slice none 0 0, .slice none 0 0, .slice none 0 0, .slice none 0 0, .slice none 0 0, .slice none 0 0, .slice none 0 0, .slice none 0 0, .int .i64 0] 44)
  have hsz : (((w.alloc (.cells #[.int .i64 N.W, .int .i64 N.H, .slice y.br.A N.br.length y.br.c, .slice y.ta.A N.ta.length y.ta.c, .slice y.tb.A N.tb.length y.tb.c, .slice y.bu.A N.bu.length y.bu.c, .slice y.ow.A N.ow.length y.ow.c, .slice y.tu.A N.tu.length y.tu.c, .slice y.so.A N.so.length y.so.c, .slice y.ar.A N.ar.length y.ar.c, .int .i64 N.ti] 33)).alloc (.cells #[.int .i64 0, .int .i64 0, .slice none 0 0, .slice none 0 0, .slice none 0 0, .slice none 0 0, .slice none 0 0, .slice none 0 0, .slice none 0 0, .slice none 0 0, .int .i64 0] 44)).alloc (.cells #[.int .i64 0, .int .i64 0, .slice none 0 0, .slice none 0 0, .slice none 0 0, .slice none 0 0, .slice none 0 0, .slice none 0 0, .slice none 0 0, .slice none 0 0, .int .i64 0] 44)).heap.size = w.heap.size + 3 := by simp only [alloc_size]
  simp only [alloc_size] at k1 k2
  clear h hs
  go_enter Try.func9, Try.ntmps9
  go_wp2_with fail
  generalize ((w.alloc (.cells #[.int .i64 N.W, .int .i64 N.H, .slice y.br.A N.br.length y.br.c, .slice y.ta.A N.ta.length y.ta.c, .slice y.tb.A N.tb.length y.tb.c, .slice y.bu.A N.bu.length y.bu.c, .slice y.ow.A N.ow.length y.ow.c, .slice y.tu.A N.tu.length y.tu.c, .slice y.so.A N.so.length y.so.c, .slice y.ar.A N.ar.length y.ar.c, .int .i64 N.ti] 33)).alloc (.cells #[.int .i64 0, .int .i64 0, .slice none 0 0, .slice none 0 0, .slice none 0 0, .slice none 0 0, .slice none 0 0, .slice none 0 0, .slice none 0 0, .slice none 0 0, .int .i64 0] 44)).alloc (.cells #[.int .i64 0, .int .i64 0, .slice none 0 0, .slice none 0 0, .slice none 0 0, .slice none 0 0, .slice none 0 0, .slice none 0 0, .slice none 0 0, .slice none 0 0, .int .i64 0] 44) = wx at *
  obtain ⟨g, hg⟩ : ∃ g, w.heap.size + 1 + 1 = g := ⟨_, rfl⟩
  rw [hg] at k2
  rw [hg]
  have HG := Lib.hid hg
  have GE := Lib.hid ge
  have BE := Lib.hid (gb_below_none ge (Nat.le_refl _))
  have HE := Lib.hid (show wx.heap.size = g + 1 by omega)
  have L0 := Lib.hid k0
  have Z0 := Lib.hid k1
  have J0 := Lib.hid k2
  have R0 := Lib.hid (Chg.refl g (g + 1) wx)
  have F0 := Lib.hid (show Fix (g + 1) wx.heap.size (fun _ => True) wx from ⟨Nat.le_refl _, fun _ _ _ => trivial⟩)
  clear k0 k1 k2 ge hsz hg
  have hn1 : ¬ w.heap.size = g := by have := HG.out; omega
  have hn2 : ¬ g = w.heap.size := by omega
  have hn3 : ¬ w.heap.size + 1 = g := by have := HG.out; omega
  have hn4 : ¬ g = w.heap.size + 1 := by omega
  refine (lawsToMesh _ _ _ _ _ N.br _ (HIN.out.chg BE.out R0.out (.inl (by have := HG.out; omega))).br (by have := HSM.out; unfold sizeN at this; omega)).mono ?_
  rintro e v1 ⟨g1, rfl, o1, b1⟩
  obtain ⟨s1, hs1⟩ : ∃ s, wx.heap.size = s := ⟨_, rfl⟩
  rw [hs1] at o1
  have F1a : Hid (Fix (g + 1) v1.heap.size (fun w => (True) ∧ w.ownsRow s1 3 1 (.slice (some ⟨g1, 0, none⟩) N.br.length N.br.length) N.br.length (intsV N.br)) v1) := Lib.hid (((F0.out.gb (gb_of_below b1 none)).wide (Nat.le_refl _) (b1.size) (Nat.le_refl _)).and ((fix_row o1).wide (by have h1 := HE.out; have h2 := R0.out.size; omega) (Nat.le_refl _) (Nat.le_refl _)))
  have U1 := Lib.hid (show ∀ k, ((.slice (some ⟨g1, 0, none⟩) N.br.length N.br.length) : Value).ownBlock = some k → s1 ≤ k ∧ k < v1.heap.size from o1.lt)
  have S1 := Lib.hid (show s1 ≤ v1.heap.size ∧ wx.heap.size = s1 from ⟨by rw [← hs1]; exact b1.size, hs1⟩)
  have R1a := Lib.hid (R0.out.bl b1)
  have gl1 := Lib.hid (show g < wx.heap.size by have h1 := HE.out; have h2 := R0.out.size; omega)
  have J1a := Lib.hid (J0.out.below b1 gl1.out)
  have L1a := Lib.hid (L0.out.below b1 (by have := gl1.out; have := HG.out; omega))
  have Z1a := Lib.hid (Z0.out.below b1 (by have := gl1.out; have := HG.out; omega))
  have c1_0 : v1.cell? ⟨g, 0, none⟩ = some (.int .i64 0) := J1a.out.cell 0
  have c1_1 : v1.cell? ⟨g, 1, none⟩ = some (.int .i64 0) := J1a.out.cell 1
  have c1_2 : v1.cell? ⟨g, 2, none⟩ = some (.slice none 0 0) := J1a.out.cell 2
  have f1_0 := J1a.out.frozen 0
  have f1_1 := J1a.out.frozen 1
  have f1_2 := J1a.out.frozen 2
  have ata : v1.cell? ⟨w.heap.size, 3, none⟩ = some (.slice y.ta.A N.ta.length y.ta.c) := L1a.out.cell 3
  have atb : v1.cell? ⟨w.heap.size, 4, none⟩ = some (.slice y.tb.A N.tb.length y.tb.c) := L1a.out.cell 4
  clear o1 b1 hs1
  go_wp2_with fail
  have J1 : Hid (Blk (((v1.setCell ⟨g, 0, none⟩ (.int .i64 N.W)).setCell ⟨g, 1, none⟩ (.int .i64 N.H)).setCell ⟨g, 2, none⟩ (.slice (some ⟨g1, 0, none⟩) N.br.length N.br.length)) g 44 #[.int .i64 N.W, .int .i64 N.H, .slice (some ⟨g1, 0, none⟩) N.br.length N.br.length, .slice none 0 0, .slice none 0 0, .slice none 0 0, .slice none 0 0, .slice none 0 0, .slice none 0 0, .slice none 0 0, .int .i64 0]) := Lib.hid (by have hz := (((J1a.out.set_ 0 (.int .i64 N.W)).set_ 1 (.int .i64 N.H)).set_ 2 (.slice (some ⟨g1, 0, none⟩) N.br.length N.br.length)); simpa using hz)
  have q1 : Chg g (g + 1) v1 (((v1.setCell ⟨g, 0, none⟩ (.int .i64 N.W)).setCell ⟨g, 1, none⟩ (.int .i64 N.H)).setCell ⟨g, 2, none⟩ (.slice (some ⟨g1, 0, none⟩) N.br.length N.br.length)) := (((st_in _ _ _ _).sx _ _).sx _ _)
  have R1 : Hid (Chg g (g + 1) wx (((v1.setCell ⟨g, 0, none⟩ (.int .i64 N.W)).setCell ⟨g, 1, none⟩ (.int .i64 N.H)).setCell ⟨g, 2, none⟩ (.slice (some ⟨g1, 0, none⟩) N.br.length N.br.length))) := Lib.hid ((((R1a.out.sx _ _).sx _ _).sx _ _))
  have F1 := Lib.hid (F1a.out.chg q1 (.inr (.inl (Nat.le_refl _))))
  have L1 := Lib.hid (L1a.out.chg q1 (.inl (by have := HG.out; omega)))
  have Z1 := Lib.hid (Z1a.out.chg q1 (.inl (by have := HG.out; omega)))
  have E1 : Hid (((((v1.setCell ⟨g, 0, none⟩ (.int .i64 N.W)).setCell ⟨g, 1, none⟩ (.int .i64 N.H)).setCell ⟨g, 2, none⟩ (.slice (some ⟨g1, 0, none⟩) N.br.length N.br.length))).heap.size = v1.heap.size) := Lib.hid (by simp only [size_set])
  have q1s : ((((v1.setCell ⟨g, 0, none⟩ (.int .i64 N.W)).setCell ⟨g, 1, none⟩ (.int .i64 N.H)).setCell ⟨g, 2, none⟩ (.slice (some ⟨g1, 0, none⟩) N.br.length N.br.length))).heap.size = v1.heap.size := E1.out
  rw [← q1s] at F1
  clear J1a R1a F1a L1a Z1a q1 q1s c1_0 c1_1 c1_2 f1_0 f1_1 f1_2 ata atb R0 F0 J0 L0 Z0
  generalize (((v1.setCell ⟨g, 0, none⟩ (.int .i64 N.W)).setCell ⟨g, 1, none⟩ (.int .i64 N.H)).setCell ⟨g, 2, none⟩ (.slice (some ⟨g1, 0, none⟩) N.br.length N.br.length)) = u1 at *
  refine (lawsToClasses _ _ _ _ _ _ N.ta N.tb _ (HIN.out.chg BE.out R1.out (.inl (by have := HG.out; omega))).ta (HIN.out.chg BE.out R1.out (.inl (by have := HG.out; omega))).tb (by have := HSM.out; unfold sizeN at this; omega) (by have := HSM.out; unfold sizeN at this; omega)).mono ?_
  rintro e v2 ⟨x2, z2, rfl, o2, b2⟩
  obtain ⟨Ax2, cx2, rfl, _⟩ := own_form o2.r
  obtain ⟨Az2, cz2, rfl, _⟩ := own_form o2.c
  obtain ⟨s2, hs2⟩ : ∃ s, u1.heap.size = s := ⟨_, rfl⟩
  rw [hs2] at o2
  have F2a : Hid (Fix (g + 1) v2.heap.size (fun w => ((True) ∧ w.ownsRow s1 3 1 (.slice (some ⟨g1, 0, none⟩) N.br.length N.br.length) N.br.length (intsV N.br)) ∧ VRow w s2 (.slice Ax2 N.ta.length cx2) (.slice Az2 N.tb.length cz2) N.ta.length N.tb.length N.ta N.tb) v2) := Lib.hid (((F1.out.gb (gb_of_below b2 none)).wide (Nat.le_refl _) (b2.size) (Nat.le_refl _)).and ((fix_vrow o2).wide (by have h1 := HE.out; have h2 := R1.out.size; omega) (Nat.le_refl _) (Nat.le_refl _)))
  have U2 := Lib.hid (show ∀ k, (((.slice Ax2 N.ta.length cx2) : Value).ownBlock = some k ∨ ((.slice Az2 N.tb.length cz2) : Value).ownBlock = some k) → s2 ≤ k ∧ k < v2.heap.size from o2.lt)
  have S2 := Lib.hid (show s2 ≤ v2.heap.size ∧ u1.heap.size = s2 from ⟨by rw [← hs2]; exact b2.size, hs2⟩)
  have R2a := Lib.hid (R1.out.bl b2)
  have gl2 := Lib.hid (show g < u1.heap.size by have h1 := HE.out; have h2 := R1.out.size; omega)
  have J2a := Lib.hid (J1.out.below b2 gl2.out)
  have L2a := Lib.hid (L1.out.below b2 (by have := gl2.out; have := HG.out; omega))
  have Z2a := Lib.hid (Z1.out.below b2 (by have := gl2.out; have := HG.out; omega))
  have c2_3 : v2.cell? ⟨g, 3, none⟩ = some (.slice none 0 0) := J2a.out.cell 3
  have c2_4 : v2.cell? ⟨g, 4, none⟩ = some (.slice none 0 0) := J2a.out.cell 4
  have f2_3 := J2a.out.frozen 3
  have f2_4 := J2a.out.frozen 4
  have abu : v2.cell? ⟨w.heap.size, 5, none⟩ = some (.slice y.bu.A N.bu.length y.bu.c) := L2a.out.cell 5
  clear o2 b2 hs2
  go_wp2_with fail
  have J2 : Hid (Blk ((v2.setCell ⟨g, 3, none⟩ (.slice Ax2 N.ta.length cx2)).setCell ⟨g, 4, none⟩ (.slice Az2 N.tb.length cz2)) g 44 #[.int .i64 N.W, .int .i64 N.H, .slice (some ⟨g1, 0, none⟩) N.br.length N.br.length, .slice Ax2 N.ta.length cx2, .slice Az2 N.tb.length cz2, .slice none 0 0, .slice none 0 0, .slice none 0 0, .slice none 0 0, .slice none 0 0, .int .i64 0]) := Lib.hid (by have hz := ((J2a.out.set_ 3 (.slice Ax2 N.ta.length cx2)).set_ 4 (.slice Az2 N.tb.length cz2)); simpa using hz)
  have q2 : Chg g (g + 1) v2 ((v2.setCell ⟨g, 3, none⟩ (.slice Ax2 N.ta.length cx2)).setCell ⟨g, 4, none⟩ (.slice Az2 N.tb.length cz2)) := ((st_in _ _ _ _).sx _ _)
  have R2 : Hid (Chg g (g + 1) wx ((v2.setCell ⟨g, 3, none⟩ (.slice Ax2 N.ta.length cx2)).setCell ⟨g, 4, none⟩ (.slice Az2 N.tb.length cz2))) := Lib.hid (((R2a.out.sx _ _).sx _ _))
  have F2 := Lib.hid (F2a.out.chg q2 (.inr (.inl (Nat.le_refl _))))
  have L2 := Lib.hid (L2a.out.chg q2 (.inl (by have := HG.out; omega)))
  have Z2 := Lib.hid (Z2a.out.chg q2 (.inl (by have := HG.out; omega)))
  have E2 : Hid ((((v2.setCell ⟨g, 3, none⟩ (.slice Ax2 N.ta.length cx2)).setCell ⟨g, 4, none⟩ (.slice Az2 N.tb.length cz2))).heap.size = v2.heap.size) := Lib.hid (by simp only [size_set])
  have q2s : (((v2.setCell ⟨g, 3, none⟩ (.slice Ax2 N.ta.length cx2)).setCell ⟨g, 4, none⟩ (.slice Az2 N.tb.length cz2))).heap.size = v2.heap.size := E2.out
  rw [← q2s] at F2
  clear J2a R2a F2a L2a Z2a q2 q2s c2_3 c2_4 f2_3 f2_4 abu R1 F1 J1 L1 Z1
  generalize ((v2.setCell ⟨g, 3, none⟩ (.slice Ax2 N.ta.length cx2)).setCell ⟨g, 4, none⟩ (.slice Az2 N.tb.length cz2)) = u2 at *
  refine (lawsToFSS _ _ _ N.bu _ (HIN.out.chg BE.out R2.out (.inl (by have := HG.out; omega))).bu (by have := HSM.out; unfold sizeN at this; omega) (by have := HSM.out; unfold sizeN at this; omega)).mono ?_
  rintro e v3 ⟨g3, us3, rfl, o3, b3⟩
  obtain ⟨s3, hs3⟩ : ∃ s, u2.heap.size = s := ⟨_, rfl⟩
  rw [hs3] at o3
  have F3a : Hid (Fix (g + 1) v3.heap.size (fun w => (((True) ∧ w.ownsRow s1 3 1 (.slice (some ⟨g1, 0, none⟩) N.br.length N.br.length) N.br.length (intsV N.br)) ∧ VRow w s2 (.slice Ax2 N.ta.length cx2) (.slice Az2 N.tb.length cz2) N.ta.length N.tb.length N.ta N.tb) ∧ Fams 83 85 5 fltC w s3 (.slice (some ⟨g3, 0, none⟩) N.bu.length N.bu.length) us3 N.bu) v3) := Lib.hid (((F2.out.gb (gb_of_below b3 none)).wide (Nat.le_refl _) (b3.size) (Nat.le_refl _)).and ((fix_fams o3).wide (by have h1 := HE.out; have h2 := R2.out.size; omega) (Nat.le_refl _) (Nat.le_refl _)))
  have U3 := Lib.hid (show (∀ k, ((.slice (some ⟨g3, 0, none⟩) N.bu.length N.bu.length) : Value).ownBlock = some k → s3 ≤ k ∧ k < v3.heap.size) ∧ ∀ (i : Nat) v k, us3[i]? = some v → v.ownBlock = some k → s3 ≤ k ∧ k < v3.heap.size from ⟨o3.hd.lt, fun i v k hv hk => o3.fam.lt hv hk⟩)
  have S3 := Lib.hid (show s3 ≤ v3.heap.size ∧ u2.heap.size = s3 from ⟨by rw [← hs3]; exact b3.size, hs3⟩)
  have R3a := Lib.hid (R2.out.bl b3)
  have gl3 := Lib.hid (show g < u2.heap.size by have h1 := HE.out; have h2 := R2.out.size; omega)
  have J3a := Lib.hid (J2.out.below b3 gl3.out)
  have L3a := Lib.hid (L2.out.below b3 (by have := gl3.out; have := HG.out; omega))
  have Z3a := Lib.hid (Z2.out.below b3 (by have := gl3.out; have := HG.out; omega))
  have c3_5 : v3.cell? ⟨g, 5, none⟩ = some (.slice none 0 0) := J3a.out.cell 5
  have f3_5 := J3a.out.frozen 5
  have aow : v3.cell? ⟨w.heap.size, 6, none⟩ = some (.slice y.ow.A N.ow.length y.ow.c) := L3a.out.cell 6
  clear o3 b3 hs3
  go_wp2_with fail
  have J3 : Hid (Blk (v3.setCell ⟨g, 5, none⟩ (.slice (some ⟨g3, 0, none⟩) N.bu.length N.bu.length)) g 44 #[.int .i64 N.W, .int .i64 N.H, .slice (some ⟨g1, 0, none⟩) N.br.length N.br.length, .slice Ax2 N.ta.length cx2, .slice Az2 N.tb.length cz2, .slice (some ⟨g3, 0, none⟩) N.bu.length N.bu.length, .slice none 0 0, .slice none 0 0, .slice none 0 0, .slice none 0 0, .int .i64 0]) := Lib.hid (by have hz := (J3a.out.set_ 5 (.slice (some ⟨g3, 0, none⟩) N.bu.length N.bu.length)); simpa using hz)
  have q3 : Chg g (g + 1) v3 (v3.setCell ⟨g, 5, none⟩ (.slice (some ⟨g3, 0, none⟩) N.bu.length N.bu.length)) := (st_in _ _ _ _)
  have R3 : Hid (Chg g (g + 1) wx (v3.setCell ⟨g, 5, none⟩ (.slice (some ⟨g3, 0, none⟩) N.bu.length N.bu.length))) := Lib.hid ((R3a.out.sx _ _))
  have F3 := Lib.hid (F3a.out.chg q3 (.inr (.inl (Nat.le_refl _))))
  have L3 := Lib.hid (L3a.out.chg q3 (.inl (by have := HG.out; omega)))
  have Z3 := Lib.hid (Z3a.out.chg q3 (.inl (by have := HG.out; omega)))
  have E3 : Hid (((v3.setCell ⟨g, 5, none⟩ (.slice (some ⟨g3, 0, none⟩) N.bu.length N.bu.length))).heap.size = v3.heap.size) := Lib.hid (by simp only [size_set])
  have q3s : ((v3.setCell ⟨g, 5, none⟩ (.slice (some ⟨g3, 0, none⟩) N.bu.length N.bu.length))).heap.size = v3.heap.size := E3.out
  rw [← q3s] at F3
  clear J3a R3a F3a L3a Z3a q3 q3s c3_5 f3_5 aow R2 F2 J2 L2 Z2
  generalize (v3.setCell ⟨g, 5, none⟩ (.slice (some ⟨g3, 0, none⟩) N.bu.length N.bu.length)) = u3 at *
  refine (lawsToIntS _ _ _ N.ow _ (HIN.out.chg BE.out R3.out (.inl (by have := HG.out; omega))).ow (by have := HSM.out; unfold sizeN at this; omega)).mono ?_
  rintro e v4 ⟨g4, rfl, o4, b4⟩
  obtain ⟨s4, hs4⟩ : ∃ s, u3.heap.size = s := ⟨_, rfl⟩
  rw [hs4] at o4
  have F4a : Hid (Fix (g + 1) v4.heap.size (fun w => ((((True) ∧ w.ownsRow s1 3 1 (.slice (some ⟨g1, 0, none⟩) N.br.length N.br.length) N.br.length (intsV N.br)) ∧ VRow w s2 (.slice Ax2 N.ta.length cx2) (.slice Az2 N.tb.length cz2) N.ta.length N.tb.length N.ta N.tb) ∧ Fams 83 85 5 fltC w s3 (.slice (some ⟨g3, 0, none⟩) N.bu.length N.bu.length) us3 N.bu) ∧ w.ownsRow s4 3 1 (.slice (some ⟨g4, 0, none⟩) N.ow.length N.ow.length) N.ow.length (intsV N.ow)) v4) := Lib.hid (((F3.out.gb (gb_of_below b4 none)).wide (Nat.le_refl _) (b4.size) (Nat.le_refl _)).and ((fix_row o4).wide (by have h1 := HE.out; have h2 := R3.out.size; omega) (Nat.le_refl _) (Nat.le_refl _)))
  have U4 := Lib.hid (show ∀ k, ((.slice (some ⟨g4, 0, none⟩) N.ow.length N.ow.length) : Value).ownBlock = some k → s4 ≤ k ∧ k < v4.heap.size from o4.lt)
  have S4 := Lib.hid (show s4 ≤ v4.heap.size ∧ u3.heap.size = s4 from ⟨by rw [← hs4]; exact b4.size, hs4⟩)
  have R4a := Lib.hid (R3.out.bl b4)
  have gl4 := Lib.hid (show g < u3.heap.size by have h1 := HE.out; have h2 := R3.out.size; omega)
  have J4a := Lib.hid (J3.out.below b4 gl4.out)
  have L4a := Lib.hid (L3.out.below b4 (by have := gl4.out; have := HG.out; omega))
  have Z4a := Lib.hid (Z3.out.below b4 (by have := gl4.out; have := HG.out; omega))
  have c4_6 : v4.cell? ⟨g, 6, none⟩ = some (.slice none 0 0) := J4a.out.cell 6
  have f4_6 := J4a.out.frozen 6
  have atu : v4.cell? ⟨w.heap.size, 7, none⟩ = some (.slice y.tu.A N.tu.length y.tu.c) := L4a.out.cell 7
  clear o4 b4 hs4
  go_wp2_with fail
  have J4 : Hid (Blk (v4.setCell ⟨g, 6, none⟩ (.slice (some ⟨g4, 0, none⟩) N.ow.length N.ow.length)) g 44 #[.int .i64 N.W, .int .i64 N.H, .slice (some ⟨g1, 0, none⟩) N.br.length N.br.length, .slice Ax2 N.ta.length cx2, .slice Az2 N.tb.length cz2, .slice (some ⟨g3, 0, none⟩) N.bu.length N.bu.length, .slice (some ⟨g4, 0, none⟩) N.ow.length N.ow.length, .slice none 0 0, .slice none 0 0, .slice none 0 0, .int .i64 0]) := Lib.hid (by have hz := (J4a.out.set_ 6 (.slice (some ⟨g4, 0, none⟩) N.ow.length N.ow.length)); simpa using hz)
  have q4 : Chg g (g + 1) v4 (v4.setCell ⟨g, 6, none⟩ (.slice (some ⟨g4, 0, none⟩) N.ow.length N.ow.length)) := (st_in _ _ _ _)
  have R4 : Hid (Chg g (g + 1) wx (v4.setCell ⟨g, 6, none⟩ (.slice (some ⟨g4, 0, none⟩) N.ow.length N.ow.length))) := Lib.hid ((R4a.out.sx _ _))
  have F4 := Lib.hid (F4a.out.chg q4 (.inr (.inl (Nat.le_refl _))))
  have L4 := Lib.hid (L4a.out.chg q4 (.inl (by have := HG.out; omega)))
  have Z4 := Lib.hid (Z4a.out.chg q4 (.inl (by have := HG.out; omega)))
  have E4 : Hid (((v4.setCell ⟨g, 6, none⟩ (.slice (some ⟨g4, 0, none⟩) N.ow.length N.ow.length))).heap.size = v4.heap.size) := Lib.hid (by simp only [size_set])
  have q4s : ((v4.setCell ⟨g, 6, none⟩ (.slice (some ⟨g4, 0, none⟩) N.ow.length N.ow.length))).heap.size = v4.heap.size := E4.out
  rw [← q4s] at F4
  clear J4a R4a F4a L4a Z4a q4 q4s c4_6 f4_6 atu R3 F3 J3 L3 Z3
  generalize (v4.setCell ⟨g, 6, none⟩ (.slice (some ⟨g4, 0, none⟩) N.ow.length N.ow.length)) = u4 at *
  refine (lawsToIntS _ _ _ N.tu _ (HIN.out.chg BE.out R4.out (.inl (by have := HG.out; omega))).tu (by have := HSM.out; unfold sizeN at this; omega)).mono ?_
  rintro e v5 ⟨g5, rfl, o5, b5⟩
  obtain ⟨s5, hs5⟩ : ∃ s, u4.heap.size = s := ⟨_, rfl⟩
  rw [hs5] at o5
  have F5a : Hid (Fix (g + 1) v5.heap.size (fun w => (((((True) ∧ w.ownsRow s1 3 1 (.slice (some ⟨g1, 0, none⟩) N.br.length N.br.length) N.br.length (intsV N.br)) ∧ VRow w s2 (.slice Ax2 N.ta.length cx2) (.slice Az2 N.tb.length cz2) N.ta.length N.tb.length N.ta N.tb) ∧ Fams 83 85 5 fltC w s3 (.slice (some ⟨g3, 0, none⟩) N.bu.length N.bu.length) us3 N.bu) ∧ w.ownsRow s4 3 1 (.slice (some ⟨g4, 0, none⟩) N.ow.length N.ow.length) N.ow.length (intsV N.ow)) ∧ w.ownsRow s5 3 1 (.slice (some ⟨g5, 0, none⟩) N.tu.length N.tu.length) N.tu.length (intsV N.tu)) v5) := Lib.hid (((F4.out.gb (gb_of_below b5 none)).wide (Nat.le_refl _) (b5.size) (Nat.le_refl _)).and ((fix_row o5).wide (by have h1 := HE.out; have h2 := R4.out.size; omega) (Nat.le_refl _) (Nat.le_refl _)))
  have U5 := Lib.hid (show ∀ k, ((.slice (some ⟨g5, 0, none⟩) N.tu.length N.tu.length) : Value).ownBlock = some k → s5 ≤ k ∧ k < v5.heap.size from o5.lt)
  have S5 := Lib.hid (show s5 ≤ v5.heap.size ∧ u4.heap.size = s5 from ⟨by rw [← hs5]; exact b5.size, hs5⟩)
  have R5a := Lib.hid (R4.out.bl b5)
  have gl5 := Lib.hid (show g < u4.heap.size by have h1 := HE.out; have h2 := R4.out.size; omega)
  have J5a := Lib.hid (J4.out.below b5 gl5.out)
  have L5a := Lib.hid (L4.out.below b5 (by have := gl5.out; have := HG.out; omega))
  have Z5a := Lib.hid (Z4.out.below b5 (by have := gl5.out; have := HG.out; omega))
  have c5_7 : v5.cell? ⟨g, 7, none⟩ = some (.slice none 0 0) := J5a.out.cell 7
  have f5_7 := J5a.out.frozen 7
  have aso : v5.cell? ⟨w.heap.size, 8, none⟩ = some (.slice y.so.A N.so.length y.so.c) := L5a.out.cell 8
  clear o5 b5 hs5
  go_wp2_with fail
  have J5 : Hid (Blk (v5.setCell ⟨g, 7, none⟩ (.slice (some ⟨g5, 0, none⟩) N.tu.length N.tu.length)) g 44 #[.int .i64 N.W, .int .i64 N.H, .slice (some ⟨g1, 0, none⟩) N.br.length N.br.length, .slice Ax2 N.ta.length cx2, .slice Az2 N.tb.length cz2, .slice (some ⟨g3, 0, none⟩) N.bu.length N.bu.length, .slice (some ⟨g4, 0, none⟩) N.ow.length N.ow.length, .slice (some ⟨g5, 0, none⟩) N.tu.length N.tu.length, .slice none 0 0, .slice none 0 0, .int .i64 0]) := Lib.hid (by have hz := (J5a.out.set_ 7 (.slice (some ⟨g5, 0, none⟩) N.tu.length N.tu.length)); simpa using hz)
  have q5 : Chg g (g + 1) v5 (v5.setCell ⟨g, 7, none⟩ (.slice (some ⟨g5, 0, none⟩) N.tu.length N.tu.length)) := (st_in _ _ _ _)
  have R5 : Hid (Chg g (g + 1) wx (v5.setCell ⟨g, 7, none⟩ (.slice (some ⟨g5, 0, none⟩) N.tu.length N.tu.length))) := Lib.hid ((R5a.out.sx _ _))
  have F5 := Lib.hid (F5a.out.chg q5 (.inr (.inl (Nat.le_refl _))))
  have L5 := Lib.hid (L5a.out.chg q5 (.inl (by have := HG.out; omega)))
  have Z5 := Lib.hid (Z5a.out.chg q5 (.inl (by have := HG.out; omega)))
  have E5 : Hid (((v5.setCell ⟨g, 7, none⟩ (.slice (some ⟨g5, 0, none⟩) N.tu.length N.tu.length))).heap.size = v5.heap.size) := Lib.hid (by simp only [size_set])
  have q5s : ((v5.setCell ⟨g, 7, none⟩ (.slice (some ⟨g5, 0, none⟩) N.tu.length N.tu.length))).heap.size = v5.heap.size := E5.out
  rw [← q5s] at F5
  clear J5a R5a F5a L5a Z5a q5 q5s c5_7 f5_7 aso R4 F4 J4 L4 Z4
  generalize (v5.setCell ⟨g, 7, none⟩ (.slice (some ⟨g5, 0, none⟩) N.tu.length N.tu.length)) = u5 at *
  refine (lawsToFSS _ _ _ N.so _ (HIN.out.chg BE.out R5.out (.inl (by have := HG.out; omega))).so (by have := HSM.out; unfold sizeN at this; omega) (by have := HSM.out; unfold sizeN at this; omega)).mono ?_
  rintro e v6 ⟨g6, us6, rfl, o6, b6⟩
  obtain ⟨s6, hs6⟩ : ∃ s, u5.heap.size = s := ⟨_, rfl⟩
  rw [hs6] at o6
  have F6a : Hid (Fix (g + 1) v6.heap.size (fun w => ((((((True) ∧ w.ownsRow s1 3 1 (.slice (some ⟨g1, 0, none⟩) N.br.length N.br.length) N.br.length (intsV N.br)) ∧ VRow w s2 (.slice Ax2 N.ta.length cx2) (.slice Az2 N.tb.length cz2) N.ta.length N.tb.length N.ta N.tb) ∧ Fams 83 85 5 fltC w s3 (.slice (some ⟨g3, 0, none⟩) N.bu.length N.bu.length) us3 N.bu) ∧ w.ownsRow s4 3 1 (.slice (some ⟨g4, 0, none⟩) N.ow.length N.ow.length) N.ow.length (intsV N.ow)) ∧ w.ownsRow s5 3 1 (.slice (some ⟨g5, 0, none⟩) N.tu.length N.tu.length) N.tu.length (intsV N.tu)) ∧ Fams 83 85 5 fltC w s6 (.slice (some ⟨g6, 0, none⟩) N.so.length N.so.length) us6 N.so) v6) := Lib.hid (((F5.out.gb (gb_of_below b6 none)).wide (Nat.le_refl _) (b6.size) (Nat.le_refl _)).and ((fix_fams o6).wide (by have h1 := HE.out; have h2 := R5.out.size; omega) (Nat.le_refl _) (Nat.le_refl _)))
  have U6 := Lib.hid (show (∀ k, ((.slice (some ⟨g6, 0, none⟩) N.so.length N.so.length) : Value).ownBlock = some k → s6 ≤ k ∧ k < v6.heap.size) ∧ ∀ (i : Nat) v k, us6[i]? = some v → v.ownBlock = some k → s6 ≤ k ∧ k < v6.heap.size from ⟨o6.hd.lt, fun i v k hv hk => o6.fam.lt hv hk⟩)
  have S6 := Lib.hid (show s6 ≤ v6.heap.size ∧ u5.heap.size = s6 from ⟨by rw [← hs6]; exact b6.size, hs6⟩)
  have R6a := Lib.hid (R5.out.bl b6)
  have gl6 := Lib.hid (show g < u5.heap.size by have h1 := HE.out; have h2 := R5.out.size; omega)
  have J6a := Lib.hid (J5.out.below b6 gl6.out)
  have L6a := Lib.hid (L5.out.below b6 (by have := gl6.out; have := HG.out; omega))
  have Z6a := Lib.hid (Z5.out.below b6 (by have := gl6.out; have := HG.out; omega))
  have c6_8 : v6.cell? ⟨g, 8, none⟩ = some (.slice none 0 0) := J6a.out.cell 8
  have f6_8 := J6a.out.frozen 8
  have aar : v6.cell? ⟨w.heap.size, 9, none⟩ = some (.slice y.ar.A N.ar.length y.ar.c) := L6a.out.cell 9
  clear o6 b6 hs6
  go_wp2_with fail
  have J6 : Hid (Blk (v6.setCell ⟨g, 8, none⟩ (.slice (some ⟨g6, 0, none⟩) N.so.length N.so.length)) g 44 #[.int .i64 N.W, .int .i64 N.H, .slice (some ⟨g1, 0, none⟩) N.br.length N.br.length, .slice Ax2 N.ta.length cx2, .slice Az2 N.tb.length cz2, .slice (some ⟨g3, 0, none⟩) N.bu.length N.bu.length, .slice (some ⟨g4, 0, none⟩) N.ow.length N.ow.length, .slice (some ⟨g5, 0, none⟩) N.tu.length N.tu.length, .slice (some ⟨g6, 0, none⟩) N.so.length N.so.length, .slice none 0 0, .int .i64 0]) := Lib.hid (by have hz := (J6a.out.set_ 8 (.slice (some ⟨g6, 0, none⟩) N.so.length N.so.length)); simpa using hz)
  have q6 : Chg g (g + 1) v6 (v6.setCell ⟨g, 8, none⟩ (.slice (some ⟨g6, 0, none⟩) N.so.length N.so.length)) := (st_in _ _ _ _)
  have R6 : Hid (Chg g (g + 1) wx (v6.setCell ⟨g, 8, none⟩ (.slice (some ⟨g6, 0, none⟩) N.so.length N.so.length))) := Lib.hid ((R6a.out.sx _ _))
  have F6 := Lib.hid (F6a.out.chg q6 (.inr (.inl (Nat.le_refl _))))
  have L6 := Lib.hid (L6a.out.chg q6 (.inl (by have := HG.out; omega)))
  have Z6 := Lib.hid (Z6a.out.chg q6 (.inl (by have := HG.out; omega)))
  have E6 : Hid (((v6.setCell ⟨g, 8, none⟩ (.slice (some ⟨g6, 0, none⟩) N.so.length N.so.length))).heap.size = v6.heap.size) := Lib.hid (by simp only [size_set])
  have q6s : ((v6.setCell ⟨g, 8, none⟩ (.slice (some ⟨g6, 0, none⟩) N.so.length N.so.length))).heap.size = v6.heap.size := E6.out
  rw [← q6s] at F6
  clear J6a R6a F6a L6a Z6a q6 q6s c6_8 f6_8 aar R5 F5 J5 L5 Z5
  generalize (v6.setCell ⟨g, 8, none⟩ (.slice (some ⟨g6, 0, none⟩) N.so.length N.so.length)) = u6 at *
  refine (lawsToFSS _ _ _ N.ar _ (HIN.out.chg BE.out R6.out (.inl (by have := HG.out; omega))).ar (by have := HSM.out; unfold sizeN at this; omega) (by have := HSM.out; unfold sizeN at this; omega)).mono ?_
  rintro e v7 ⟨g7, us7, rfl, o7, b7⟩
  obtain ⟨s7, hs7⟩ : ∃ s, u6.heap.size = s := ⟨_, rfl⟩
  rw [hs7] at o7
  have F7a : Hid (Fix (g + 1) v7.heap.size (fun w => (((((((True) ∧ w.ownsRow s1 3 1 (.slice (some ⟨g1, 0, none⟩) N.br.length N.br.length) N.br.length (intsV N.br)) ∧ VRow w s2 (.slice Ax2 N.ta.length cx2) (.slice Az2 N.tb.length cz2) N.ta.length N.tb.length N.ta N.tb) ∧ Fams 83 85 5 fltC w s3 (.slice (some ⟨g3, 0, none⟩) N.bu.length N.bu.length) us3 N.bu) ∧ w.ownsRow s4 3 1 (.slice (some ⟨g4, 0, none⟩) N.ow.length N.ow.length) N.ow.length (intsV N.ow)) ∧ w.ownsRow s5 3 1 (.slice (some ⟨g5, 0, none⟩) N.tu.length N.tu.length) N.tu.length (intsV N.tu)) ∧ Fams 83 85 5 fltC w s6 (.slice (some ⟨g6, 0, none⟩) N.so.length N.so.length) us6 N.so) ∧ Fams 83 85 5 fltC w s7 (.slice (some ⟨g7, 0, none⟩) N.ar.length N.ar.length) us7 N.ar) v7) := Lib.hid (((F6.out.gb (gb_of_below b7 none)).wide (Nat.le_refl _) (b7.size) (Nat.le_refl _)).and ((fix_fams o7).wide (by have h1 := HE.out; have h2 := R6.out.size; omega) (Nat.le_refl _) (Nat.le_refl _)))
  have U7 := Lib.hid (show (∀ k, ((.slice (some ⟨g7, 0, none⟩) N.ar.length N.ar.length) : Value).ownBlock = some k → s7 ≤ k ∧ k < v7.heap.size) ∧ ∀ (i : Nat) v k, us7[i]? = some v → v.ownBlock = some k → s7 ≤ k ∧ k < v7.heap.size from ⟨o7.hd.lt, fun i v k hv hk => o7.fam.lt hv hk⟩)
  have S7 := Lib.hid (show s7 ≤ v7.heap.size ∧ u6.heap.size = s7 from ⟨by rw [← hs7]; exact b7.size, hs7⟩)
  have R7a := Lib.hid (R6.out.bl b7)
  have gl7 := Lib.hid (show g < u6.heap.size by have h1 := HE.out; have h2 := R6.out.size; omega)
  have J7a := Lib.hid (J6.out.below b7 gl7.out)
  have L7a := Lib.hid (L6.out.below b7 (by have := gl7.out; have := HG.out; omega))
  have Z7a := Lib.hid (Z6.out.below b7 (by have := gl7.out; have := HG.out; omega))
  have c7_0 : v7.cell? ⟨g, 0, none⟩ = some (.int .i64 N.W) := J7a.out.cell 0
  have c7_1 : v7.cell? ⟨g, 1, none⟩ = some (.int .i64 N.H) := J7a.out.cell 1
  have c7_2 : v7.cell? ⟨g, 2, none⟩ = some (.slice (some ⟨g1, 0, none⟩) N.br.length N.br.length) := J7a.out.cell 2
  have c7_3 : v7.cell? ⟨g, 3, none⟩ = some (.slice Ax2 N.ta.length cx2) := J7a.out.cell 3
  have c7_4 : v7.cell? ⟨g, 4, none⟩ = some (.slice Az2 N.tb.length cz2) := J7a.out.cell 4
  have c7_5 : v7.cell? ⟨g, 5, none⟩ = some (.slice (some ⟨g3, 0, none⟩) N.bu.length N.bu.length) := J7a.out.cell 5
  have c7_6 : v7.cell? ⟨g, 6, none⟩ = some (.slice (some ⟨g4, 0, none⟩) N.ow.length N.ow.length) := J7a.out.cell 6
  have c7_7 : v7.cell? ⟨g, 7, none⟩ = some (.slice (some ⟨g5, 0, none⟩) N.tu.length N.tu.length) := J7a.out.cell 7
  have c7_8 : v7.cell? ⟨g, 8, none⟩ = some (.slice (some ⟨g6, 0, none⟩) N.so.length N.so.length) := J7a.out.cell 8
  have c7_9 : v7.cell? ⟨g, 9, none⟩ = some (.slice none 0 0) := J7a.out.cell 9
  have c7_10 : v7.cell? ⟨g, 10, none⟩ = some (.int .i64 0) := J7a.out.cell 10
  have f7_9 := J7a.out.frozen 9
  have f7_10 := J7a.out.frozen 10
  have at1 : v7.cell? ⟨w.heap.size, 10, none⟩ = some (.int .i64 N.ti) := L7a.out.cell 10
  have z8_0 : v7.cell? ⟨w.heap.size + 1, 0, none⟩ = some (.int .i64 0) := Z7a.out.cell 0
  have y8_0 := Z7a.out.frozen 0
  have z8_1 : v7.cell? ⟨w.heap.size + 1, 1, none⟩ = some (.int .i64 0) := Z7a.out.cell 1
  have y8_1 := Z7a.out.frozen 1
  have z8_2 : v7.cell? ⟨w.heap.size + 1, 2, none⟩ = some (.slice none 0 0) := Z7a.out.cell 2
  have y8_2 := Z7a.out.frozen 2
  have z8_3 : v7.cell? ⟨w.heap.size + 1, 3, none⟩ = some (.slice none 0 0) := Z7a.out.cell 3
  have y8_3 := Z7a.out.frozen 3
  have z8_4 : v7.cell? ⟨w.heap.size + 1, 4, none⟩ = some (.slice none 0 0) := Z7a.out.cell 4
  have y8_4 := Z7a.out.frozen 4
  have z8_5 : v7.cell? ⟨w.heap.size + 1, 5, none⟩ = some (.slice none 0 0) := Z7a.out.cell 5
  have y8_5 := Z7a.out.frozen 5
  have z8_6 : v7.cell? ⟨w.heap.size + 1, 6, none⟩ = some (.slice none 0 0) := Z7a.out.cell 6
  have y8_6 := Z7a.out.frozen 6
  have z8_7 : v7.cell? ⟨w.heap.size + 1, 7, none⟩ = some (.slice none 0 0) := Z7a.out.cell 7
  have y8_7 := Z7a.out.frozen 7
  have z8_8 : v7.cell? ⟨w.heap.size + 1, 8, none⟩ = some (.slice none 0 0) := Z7a.out.cell 8
  have y8_8 := Z7a.out.frozen 8
  have z8_9 : v7.cell? ⟨w.heap.size + 1, 9, none⟩ = some (.slice none 0 0) := Z7a.out.cell 9
  have y8_9 := Z7a.out.frozen 9
  have z8_10 : v7.cell? ⟨w.heap.size + 1, 10, none⟩ = some (.int .i64 0) := Z7a.out.cell 10
  have y8_10 := Z7a.out.frozen 10
  clear o7 b7 hs7
  go_wp2_with fail
  have kk : Blk (((((((((((((v7.setCell ⟨g, 9, none⟩ (.slice (some ⟨g7, 0, none⟩) N.ar.length N.ar.length)).setCell ⟨g, 10, none⟩ (.int .i64 N.ti)).setCell ⟨w.heap.size + 1, 0, none⟩ (.int .i64 N.W)).setCell ⟨w.heap.size + 1, 1, none⟩ (.int .i64 N.H)).setCell ⟨w.heap.size + 1, 2, none⟩ (.slice (some ⟨g1, 0, none⟩) N.br.length N.br.length)).setCell ⟨w.heap.size + 1, 3, none⟩ (.slice Ax2 N.ta.length cx2)).setCell ⟨w.heap.size + 1, 4, none⟩ (.slice Az2 N.tb.length cz2)).setCell ⟨w.heap.size + 1, 5, none⟩ (.slice (some ⟨g3, 0, none⟩) N.bu.length N.bu.length)).setCell ⟨w.heap.size + 1, 6, none⟩ (.slice (some ⟨g4, 0, none⟩) N.ow.length N.ow.length)).setCell ⟨w.heap.size + 1, 7, none⟩ (.slice (some ⟨g5, 0, none⟩) N.tu.length N.tu.length)).setCell ⟨w.heap.size + 1, 8, none⟩ (.slice (some ⟨g6, 0, none⟩) N.so.length N.so.length)).setCell ⟨w.heap.size + 1, 9, none⟩ (.slice (some ⟨g7, 0, none⟩) N.ar.length N.ar.length)).setCell ⟨w.heap.size + 1, 10, none⟩ (.int .i64 N.ti)) (w.heap.size + 1) 44 #[.int .i64 N.W, .int .i64 N.H, .slice (some ⟨g1, 0, none⟩) N.br.length N.br.length, .slice Ax2 N.ta.length cx2, .slice Az2 N.tb.length cz2, .slice (some ⟨g3, 0, none⟩) N.bu.length N.bu.length, .slice (some ⟨g4, 0, none⟩) N.ow.length N.ow.length, .slice (some ⟨g5, 0, none⟩) N.tu.length N.tu.length, .slice (some ⟨g6, 0, none⟩) N.so.length N.so.length, .slice (some ⟨g7, 0, none⟩) N.ar.length N.ar.length, .int .i64 N.ti] := by
    have hz := ((((((((((((Z7a.out.far (p := ⟨g, 9, none⟩) hn3 (.slice (some ⟨g7, 0, none⟩) N.ar.length N.ar.length)).far (p := ⟨g, 10, none⟩) hn3 (.int .i64 N.ti)).set_ 0 (.int .i64 N.W)).set_ 1 (.int .i64 N.H)).set_ 2 (.slice (some ⟨g1, 0, none⟩) N.br.length N.br.length)).set_ 3 (.slice Ax2 N.ta.length cx2)).set_ 4 (.slice Az2 N.tb.length cz2)).set_ 5 (.slice (some ⟨g3, 0, none⟩) N.bu.length N.bu.length)).set_ 6 (.slice (some ⟨g4, 0, none⟩) N.ow.length N.ow.length)).set_ 7 (.slice (some ⟨g5, 0, none⟩) N.tu.length N.tu.length)).set_ 8 (.slice (some ⟨g6, 0, none⟩) N.so.length N.so.length)).set_ 9 (.slice (some ⟨g7, 0, none⟩) N.ar.length N.ar.length)).set_ 10 (.int .i64 N.ti)
    simpa using hz
  have q8 : Chg g (g + 1) v7 ((v7.setCell ⟨g, 9, none⟩ (.slice (some ⟨g7, 0, none⟩) N.ar.length N.ar.length)).setCell ⟨g, 10, none⟩ (.int .i64 N.ti)) := (st_in _ _ _ _).sx _ _
  have q9 : Chg (w.heap.size + 1) (w.heap.size + 1 + 1) ((v7.setCell ⟨g, 9, none⟩ (.slice (some ⟨g7, 0, none⟩) N.ar.length N.ar.length)).setCell ⟨g, 10, none⟩ (.int .i64 N.ti)) (((((((((((((v7.setCell ⟨g, 9, none⟩ (.slice (some ⟨g7, 0, none⟩) N.ar.length N.ar.length)).setCell ⟨g, 10, none⟩ (.int .i64 N.ti)).setCell ⟨w.heap.size + 1, 0, none⟩ (.int .i64 N.W)).setCell ⟨w.heap.size + 1, 1, none⟩ (.int .i64 N.H)).setCell ⟨w.heap.size + 1, 2, none⟩ (.slice (some ⟨g1, 0, none⟩) N.br.length N.br.length)).setCell ⟨w.heap.size + 1, 3, none⟩ (.slice Ax2 N.ta.length cx2)).setCell ⟨w.heap.size + 1, 4, none⟩ (.slice Az2 N.tb.length cz2)).setCell ⟨w.heap.size + 1, 5, none⟩ (.slice (some ⟨g3, 0, none⟩) N.bu.length N.bu.length)).setCell ⟨w.heap.size + 1, 6, none⟩ (.slice (some ⟨g4, 0, none⟩) N.ow.length N.ow.length)).setCell ⟨w.heap.size + 1, 7, none⟩ (.slice (some ⟨g5, 0, none⟩) N.tu.length N.tu.length)).setCell ⟨w.heap.size + 1, 8, none⟩ (.slice (some ⟨g6, 0, none⟩) N.so.length N.so.length)).setCell ⟨w.heap.size + 1, 9, none⟩ (.slice (some ⟨g7, 0, none⟩) N.ar.length N.ar.length)).setCell ⟨w.heap.size + 1, 10, none⟩ (.int .i64 N.ti)) := (((((((((((st_in _ _ _ _).sx _ _).sx _ _).sx _ _).sx _ _).sx _ _).sx _ _).sx _ _).sx _ _).sx _ _).sx _ _)
  have r9 := (R7a.out.trans q8)
  have FF := (F7a.out.chg q8 (.inr (.inl (Nat.le_refl _)))).chg q9 (.inr (.inl (by have := HG.out; omega)))
  have hsz : (((((((((((((v7.setCell ⟨g, 9, none⟩ (.slice (some ⟨g7, 0, none⟩) N.ar.length N.ar.length)).setCell ⟨g, 10, none⟩ (.int .i64 N.ti)).setCell ⟨w.heap.size + 1, 0, none⟩ (.int .i64 N.W)).setCell ⟨w.heap.size + 1, 1, none⟩ (.int .i64 N.H)).setCell ⟨w.heap.size + 1, 2, none⟩ (.slice (some ⟨g1, 0, none⟩) N.br.length N.br.length)).setCell ⟨w.heap.size + 1, 3, none⟩ (.slice Ax2 N.ta.length cx2)).setCell ⟨w.heap.size + 1, 4, none⟩ (.slice Az2 N.tb.length cz2)).setCell ⟨w.heap.size + 1, 5, none⟩ (.slice (some ⟨g3, 0, none⟩) N.bu.length N.bu.length)).setCell ⟨w.heap.size + 1, 6, none⟩ (.slice (some ⟨g4, 0, none⟩) N.ow.length N.ow.length)).setCell ⟨w.heap.size + 1, 7, none⟩ (.slice (some ⟨g5, 0, none⟩) N.tu.length N.tu.length)).setCell ⟨w.heap.size + 1, 8, none⟩ (.slice (some ⟨g6, 0, none⟩) N.so.length N.so.length)).setCell ⟨w.heap.size + 1, 9, none⟩ (.slice (some ⟨g7, 0, none⟩) N.ar.length N.ar.length)).setCell ⟨w.heap.size + 1, 10, none⟩ (.int .i64 N.ti)).heap.size = v7.heap.size := by simp only [size_set]
  have hbl := (BE.out.trans (r9.below (.inl (by have := HG.out; omega)) BE.out.size)).trans (q9.below (.inl (by omega)) (Nat.le_trans BE.out.size r9.size))
  have d0 := kk.cell 0
  have d1 := kk.cell 1
  have d2 := kk.cell 2
  have d3 := kk.cell 3
  have d4 := kk.cell 4
  have d5 := kk.cell 5
  have d6 := kk.cell 6
  have d7 := kk.cell 7
  have d8 := kk.cell 8
  have d9 := kk.cell 9
  have d10 := kk.cell 10
  simp only [List.getElem?_toArray, List.getElem?_cons_zero, List.getElem?_cons_succ] at d0 d1 d2 d3 d4 d5 d6 d7 d8 d9 d10
  generalize (((((((((((((v7.setCell ⟨g, 9, none⟩ (.slice (some ⟨g7, 0, none⟩) N.ar.length N.ar.length)).setCell ⟨g, 10, none⟩ (.int .i64 N.ti)).setCell ⟨w.heap.size + 1, 0, none⟩ (.int .i64 N.W)).setCell ⟨w.heap.size + 1, 1, none⟩ (.int .i64 N.H)).setCell ⟨w.heap.size + 1, 2, none⟩ (.slice (some ⟨g1, 0, none⟩) N.br.length N.br.length)).setCell ⟨w.heap.size + 1, 3, none⟩ (.slice Ax2 N.ta.length cx2)).setCell ⟨w.heap.size + 1, 4, none⟩ (.slice Az2 N.tb.length cz2)).setCell ⟨w.heap.size + 1, 5, none⟩ (.slice (some ⟨g3, 0, none⟩) N.bu.length N.bu.length)).setCell ⟨w.heap.size + 1, 6, none⟩ (.slice (some ⟨g4, 0, none⟩) N.ow.length N.ow.length)).setCell ⟨w.heap.size + 1, 7, none⟩ (.slice (some ⟨g5, 0, none⟩) N.tu.length N.tu.length)).setCell ⟨w.heap.size + 1, 8, none⟩ (.slice (some ⟨g6, 0, none⟩) N.so.length N.so.length)).setCell ⟨w.heap.size + 1, 9, none⟩ (.slice (some ⟨g7, 0, none⟩) N.ar.length N.ar.length)).setCell ⟨w.heap.size + 1, 10, none⟩ (.int .i64 N.ti)) = wz at *
  clear kk q8 q9 r9 c7_0 c7_1 c7_2 c7_3 c7_4 c7_5 c7_6 c7_7 c7_8 c7_9 c7_10 f7_9 f7_10 at1 z8_0 y8_0 z8_1 y8_1 z8_2 y8_2 z8_3 y8_3 z8_4 y8_4 z8_5 y8_5 z8_6 y8_6 z8_7 y8_7 z8_8 y8_8 z8_9 y8_9 z8_10 y8_10
  have hch : w.heap.size ≤ s1 ∧ v1.heap.size ≤ s2 ∧ v2.heap.size ≤ s3 ∧ v3.heap.size ≤ s4 ∧ v4.heap.size ≤ s5 ∧ v5.heap.size ≤ s6 ∧ v6.heap.size ≤ s7 ∧ s1 ≤ s2 ∧ s2 ≤ s3 ∧ s3 ≤ s4 ∧ s4 ≤ s5 ∧ s5 ≤ s6 ∧ s6 ≤ s7 := by have t1 := S1.out; have t2 := S2.out; have t3 := S3.out; have t4 := S4.out; have t5 := S5.out; have t6 := S6.out; have t7 := S7.out; have n1 := E1.out; have n2 := E2.out; have n3 := E3.out; have n4 := E4.out; have n5 := E5.out; have n6 := E6.out; have h1 := HE.out; have h2 := HG.out; omega
  obtain ⟨⟨⟨⟨⟨⟨⟨_, p1⟩, p2⟩, p3⟩, p4⟩, p5⟩, p6⟩, p7⟩ := FF.here
  obtain ⟨m0, m1, m2, m3, m4, m5, m6, m7, m8, m9, m10, m11, m12⟩ := hch
  have one : ∀ {x : Value} {a b m : Nat}, (∀ k, x.ownBlock = some k → a ≤ k ∧ k < b) → b ≤ m → ∀ v ∈ [x], ∀ k, v.ownBlock = some k → k < m := fun h hb v hv k hk => by
    rw [List.mem_singleton.1 hv] at hk
    have := h k hk
    omega
  have two : ∀ v ∈ [(.slice Ax2 N.ta.length cx2 : Value), .slice Az2 N.tb.length cz2], ∀ k, v.ownBlock = some k → k < s4 := fun v hv k hk => by
    rcases List.mem_cons.1 hv with e | e
    · rw [e] at hk; have := U2.out k (.inl hk); omega
    · rw [List.mem_singleton.1 e] at hk; have := U2.out k (.inr hk); omega
  have many : ∀ {us : List Value} {a b m : Nat}, (∀ (i : Nat) v k, us[i]? = some v → v.ownBlock = some k → a ≤ k ∧ k < b) → b ≤ m → ∀ v ∈ us, ∀ k, v.ownBlock = some k → k < m := fun h hb v hv k hk => by
    obtain ⟨i, hi, e⟩ := List.getElem_of_mem hv
    have := h i v k (List.getElem?_eq_some_iff.2 ⟨hi, e⟩) hk
    omega
  have hI := ((fam_int p1).app ((fam_two p2).app ((fam_int p4).app (fam_int p5) m10 (one U4.out m4)) (Nat.le_trans m8 m9) two) m7 (one U1.out m1)).less m0
  have hH := ((fam_hd p3.hd p3.fam.len).app ((fam_hd p6.hd p6.fam.len).app (fam_hd p7.hd p7.fam.len) m12 (one U6.out.1 m6)) (by omega) (one U3.out.1 (by omega))).less (show w.heap.size ≤ s3 by omega)
  have hF := (p3.fam.app (p6.fam.app p7.fam m12 (many U6.out.2 m6)) (show s3 ≤ s6 by omega) (many U3.out.2 (by omega))).less (show w.heap.size ≤ s3 by omega)
  refine bodyPost_ret (v := .agg #[.int .i64 N.W, .int .i64 N.H, .slice (some ⟨g1, 0, none⟩) N.br.length N.br.length, .slice Ax2 N.ta.length cx2, .slice Az2 N.tb.length cz2, .slice (some ⟨g3, 0, none⟩) N.bu.length N.bu.length, .slice (some ⟨g4, 0, none⟩) N.ow.length N.ow.length, .slice (some ⟨g5, 0, none⟩) N.tu.length N.tu.length, .slice (some ⟨g6, 0, none⟩) N.so.length N.so.length, .slice (some ⟨g7, 0, none⟩) N.ar.length N.ar.length, .int .i64 N.ti]) (by simp [results, Try.results9, go_sem, d0, d1, d2, d3, d4, d5, d6, d7, d8, d9, d10]) rfl ⟨⟨⟨some ⟨g1, 0, none⟩, N.br.length⟩, ⟨Ax2, cx2⟩, ⟨Az2, cz2⟩, ⟨some ⟨g3, 0, none⟩, N.bu.length⟩, ⟨some ⟨g4, 0, none⟩, N.ow.length⟩, ⟨some ⟨g5, 0, none⟩, N.tu.length⟩, ⟨some ⟨g6, 0, none⟩, N.so.length⟩, ⟨some ⟨g7, 0, none⟩, N.ar.length⟩⟩, rfl, ⟨us3, us6, us7, netRows_mk hI hH hF p3.fam.len p6.fam.len p7.fam.len⟩, hbl⟩
end Go.Proofs.Ytplpdjpldadcmaa
end

section
namespace Go.Proofs.Ytplpdjpldadcmaa
open Go.ChangeShapes Go.WideShapes Go.ChangeAt Go.RowKit
set_option linter.unusedVariables false

section
variable {N : Nt}
theorem nk_cls (h : clsOk N.W N.H N.br N.ta N.tb = false) : netOk N = false := by rw [netOk, h]; rfl
theorem nk_size (h : sizesN N = false) : netOk N = false := by rw [netOk, h, Bool.false_and, Bool.and_false]
theorem nk_buf {i : Nat} (hi : i < N.bu.length) (h : bufOk N.W N.H i (N.bu.getD i []) (N.ow.getD i 0) = false) : netOk N = false := by
  have h1 : (List.range N.bu.length).all (fun i => bufOk N.W N.H i (N.bu.getD i []) (N.ow.getD i 0)) = false := by
    cases ha : (List.range N.bu.length).all (fun i => bufOk N.W N.H i (N.bu.getD i []) (N.ow.getD i 0)) with
    | false => rfl
    | true =>
      rw [List.all_eq_true] at ha
      have := ha i (List.mem_range.2 hi)
      rw [h] at this
      cases this
  rw [netOk, h1, Bool.false_and, Bool.and_false, Bool.and_false]
theorem nk_tu {i : Nat} {t : Int} (ht : N.tu[i]? = some t) (h : decide (0 ≤ t ∧ t ≤ 9) = false) : netOk N = false := by
  have h1 : N.tu.all (fun t => decide (0 ≤ t ∧ t ≤ 9)) = false := by
    cases ha : N.tu.all (fun t => decide (0 ≤ t ∧ t ≤ 9)) with
    | false => rfl
    | true =>
      rw [List.all_eq_true] at ha
      have := ha t (List.mem_of_getElem? ht)
      rw [h] at this
      cases this
  rw [netOk, h1, Bool.false_and, Bool.and_false, Bool.and_false, Bool.and_false]
theorem nk_so {i : Nat} {D : List Flt} (hD : N.so[i]? = some D) (h : srcOk N.W N.H D = false) : netOk N = false := by
  have h1 : N.so.all (srcOk N.W N.H) = false := by
    cases ha : N.so.all (srcOk N.W N.H) with
    | false => rfl
    | true =>
      rw [List.all_eq_true] at ha
      have := ha D (List.mem_of_getElem? hD)
      rw [h] at this
      cases this
  rw [netOk, h1, Bool.and_false, Bool.and_false, Bool.and_false, Bool.and_false]
theorem nk_yes (h1 : clsOk N.W N.H N.br N.ta N.tb = true) (h2 : sizesN N = true) (h3 : ∀ i, i < N.bu.length → bufOk N.W N.H i (N.bu.getD i []) (N.ow.getD i 0) = true) (h4 : ∀ (i : Nat) t, N.tu[i]? = some t → decide (0 ≤ t ∧ t ≤ 9) = true)
    (h5 : ∀ (i : Nat) D, N.so[i]? = some D → srcOk N.W N.H D = true) : netOk N = true := by
  have g3 : (List.range N.bu.length).all (fun i => bufOk N.W N.H i (N.bu.getD i []) (N.ow.getD i 0)) = true := by
    rw [List.all_eq_true]
    intro i hi
    exact h3 i (List.mem_range.1 hi)
  have g4 : N.tu.all (fun t => decide (0 ≤ t ∧ t ≤ 9)) = true := by
    rw [List.all_eq_true]
    intro t ht
    obtain ⟨i, hi, e⟩ := List.getElem_of_mem ht
    exact h4 i t (List.getElem?_eq_some_iff.2 ⟨hi, e⟩)
  have g5 : N.so.all (srcOk N.W N.H) = true := by
    rw [List.all_eq_true]
    intro D hD
    obtain ⟨i, hi, e⟩ := List.getElem_of_mem hD
    exact h5 i D (List.getElem?_eq_some_iff.2 ⟨hi, e⟩)
  rw [netOk, h1, h2, g3, g4, g5]
  rfl
theorem getD_of {α : Type} {l : List α} {i : Nat} {x d : α} (h : l[i]? = some x) : l.getD i d = x := by rw [List.getD_eq_getElem?_getD, h]; rfl
theorem buf_no1 {W H : Int} {i : Nat} {D : List Flt} {o : Int} (h : ¬ D.length ≤ 3) : bufOk W H i D o = false := by rw [bufOk, decide_eq_false h]; rfl
theorem buf_no2 {W H : Int} {i : Nat} {D : List Flt} {o : Int} (h : lstOk W H D = false) : bufOk W H i D o = false := by rw [bufOk, h, Bool.false_and, Bool.and_false]
theorem buf_no3 {W H : Int} {i : Nat} {D : List Flt} {o : Int} (h : decide (-1 ≤ o ∧ o ≤ 4) = false) : bufOk W H i D o = false := by rw [bufOk, h, Bool.false_and, Bool.and_false, Bool.and_false]
theorem buf_no4 {W H : Int} {i q : Nat} {D : List Flt} {o : Int} {x : Flt} (hx : D[q]? = some x) (h : x.cl ≠ ((i % 2 : Nat) : Int)) : bufOk W H i D o = false := by
  have h1 : (D.all fun x => decide (x.cl = ((i % 2 : Nat) : Int))) = false := by
    cases ha : D.all fun x => decide (x.cl = ((i % 2 : Nat) : Int)) with
    | false => rfl
    | true =>
      rw [List.all_eq_true] at ha
      exact absurd (of_decide_eq_true (ha x (List.mem_of_getElem? hx))) h
  rw [bufOk, h1, Bool.and_false, Bool.and_false, Bool.and_false]
theorem buf_yes {W H : Int} {i : Nat} {D : List Flt} {o : Int} (h1 : D.length ≤ 3) (h2 : lstOk W H D = true) (h3 : decide (-1 ≤ o ∧ o ≤ 4) = true) (h4 : ∀ (q : Nat) x, D[q]? = some x → x.cl = ((i % 2 : Nat) : Int)) : bufOk W H i D o = true := by
  have g4 : (D.all fun x => decide (x.cl = ((i % 2 : Nat) : Int))) = true := by
    rw [List.all_eq_true]
    intro x hx
    obtain ⟨q, hq, e⟩ := List.getElem_of_mem hx
    exact decide_eq_true (h4 q x (List.getElem?_eq_some_iff.2 ⟨hq, e⟩))
  rw [bufOk, decide_eq_true h1, h2, h3, g4]
  rfl
theorem src_no1 {W H : Int} {D : List Flt} (h : ¬ D.length ≤ 60) : srcOk W H D = false := by rw [srcOk, decide_eq_false h]; rfl
theorem src_is {W H : Int} {D : List Flt} {b : Bool} (h : D.length ≤ 60) (hl : lstOk W H D = b) : srcOk W H D = b := by rw [srcOk, decide_eq_true h, hl]; rfl
/-- A network's box, and nothing but new blocks written. -/
structure NkAt (w : World) (y : Na) (N : Nt) (wr : World) : Prop where
  g : w.grownBy wr none
  b : Blk wr w.heap.size 44 #[.int .i64 N.W, .int .i64 N.H, .slice y.br.A N.br.length y.br.c, .slice y.ta.A N.ta.length y.ta.c, .slice y.tb.A N.tb.length y.tb.c, .slice y.bu.A N.bu.length y.bu.c, .slice y.ow.A N.ow.length y.ow.c, .slice y.tu.A N.tu.length y.tu.c, .slice y.so.A N.so.length y.so.c, .slice y.ar.A N.ar.length y.ar.c, .int .i64 N.ti]
variable {w wr w' : World} {y : Na}
theorem NkAt.gb (h : NkAt w y N wr) (hg : wr.grownBy w' none) : NkAt w y N w' := ⟨gb_trans h.g hg, h.b.grown hg (by simp)⟩
theorem nkAt_start : NkAt w y N (w.alloc (.cells #[.int .i64 N.W, .int .i64 N.H, .slice y.br.A N.br.length y.br.c, .slice y.ta.A N.ta.length y.ta.c, .slice y.tb.A N.tb.length y.tb.c, .slice y.bu.A N.bu.length y.bu.c, .slice y.ow.A N.ow.length y.ow.c, .slice y.tu.A N.tu.length y.tu.c, .slice y.so.A N.so.length y.so.c, .slice y.ar.A N.ar.length y.ar.c, .int .i64 N.ti] 44)) := ⟨gb_alloc (gb_refl w none) _, Blk.new w _ _⟩
theorem NkAt.in (h : NkAt w y N wr) (hi : NetIn w w.heap.size y N) : NetIn wr wr.heap.size y N := (hi.none (Nat.le_refl _) h.g).more h.g.size
end
end Go.Proofs.Ytplpdjpldadcmaa
end

section
namespace Go.Proofs.Ytplpdjpldadcmaa
open Go.ChangeShapes Go.WideShapes Go.ChangeAt Go.RowKit
set_option linter.unusedVariables false

def bufA (N : Nt) (j : Nat) : List Flt := N.bu.getD j []
def ownP (N : Nt) (a i p : Nat) : Bool := decide (N.ow.getD (10 * a + 2 * p + i % 2) (-2) = ((i / 2 : Nat) : Int))
/-- The least port whose output has the input's port as its owner. -/
def leastTo (N : Nt) (a i : Nat) : Nat → Int
  | 0 => -1
  | k + 1 => if leastTo N a i k = -1 then (if ownP N a i k = true then (k : Int) else -1) else leastTo N a i k
theorem leastTo_no {N : Nt} {a i : Nat} : ∀ {k : Nat}, (∀ p, p < k → ownP N a i p = false) → leastTo N a i k = -1 := by
  intro k
  induction k with
  | zero => intro _; rfl
  | succ k ih =>
    intro h
    rw [leastTo, ih (fun p hp => h p (by omega)), if_pos rfl, h k (by omega)]
    rfl
theorem leastTo_yes {N : Nt} {a i : Nat} {p : Nat} (h0 : ∀ q, q < p → ownP N a i q = false) (h : ownP N a i p = true) : ∀ {k : Nat}, p < k → leastTo N a i k = (p : Int) := by
  intro k
  induction k with
  | zero => intro hk; omega
  | succ k ih =>
    intro hk
    rcases Nat.lt_or_ge p k with h1 | h1
    · rw [leastTo, ih h1, if_neg (by omega)]
    · obtain rfl : p = k := by omega
      rw [leastTo, leastTo_no h0, if_pos rfl, if_pos h]
def tabC (N : Nt) (c : Nat) : List Int := if c = 1 then N.tb else N.ta
def wantL (N : Nt) (a i : Nat) : List Flt → Int
  | [] => -1
  | x :: _ => if x.hd = true then (tabC N (i % 2)).getD (a * (countG N.W N.H).toNat + x.to.toNat) 0 else leastTo N a i 5
def wantG (N : Nt) (a i : Nat) : Int := wantL N a i (bufA N (10 * a + i))
def roomG (N : Nt) (a q c : Nat) : Bool := decide (q = 4) || (hasChG N.W N.H N.br ((4 * a + q : Nat) : Int) && decide ((bufA N (10 * (nextG N.W N.H a q).toNat + 2 * (oppG q).toNat + c)).length < 3))
def headL : List Flt → Bool
  | [] => false
  | x :: _ => x.hd
def ownR (N : Nt) (a i q : Nat) : Bool := decide (N.ow.getD (10 * a + 2 * q + i % 2) (-2) = if headL (bufA N (10 * a + i)) = true then -1 else ((i / 2 : Nat) : Int))
def reqG (N : Nt) (a i q : Nat) : Bool := decide (wantG N a i = (q : Int)) && (roomG N a q (i % 2) && ownR N a i q)
def reqsTo (N : Nt) (a q k : Nat) : List Int := ((List.range k).filter fun i => reqG N a i q).map fun i : Nat => (i : Int)
theorem reqsTo_next (N : Nt) (a q k : Nat) : reqsTo N a q (k + 1) = if reqG N a k q = true then reqsTo N a q k ++ [(k : Int)] else reqsTo N a q k := by
  simp only [reqsTo, List.range_succ, List.filter_append, List.map_append]
  cases h : reqG N a k q with
  | true => simp [h]
  | false => simp [h]
theorem reqsTo_len (N : Nt) (a q k : Nat) : (reqsTo N a q k).length ≤ k := by
  simp only [reqsTo, List.length_map]
  exact Nat.le_trans (List.length_filter_le _ _) (by simp)
/-- A valid network, one of its nodes, and a port. -/
def hereG (N : Nt) (a q : Int) : Bool := netOk N && (hasG N.W N.H a && decide (0 ≤ q ∧ q ≤ 4))
def wantedG (N : Nt) (a i : Int) : Int := if (hereG N a 0 && decide (0 ≤ i ∧ i ≤ 9)) = true then wantG N a.toNat i.toNat else -1
def hasRoomG (N : Nt) (a q c : Int) : Bool := hereG N a q && (decide (0 ≤ c ∧ c ≤ 1) && roomG N a.toNat q.toNat c.toNat)
def isReqG (N : Nt) (a i q : Int) : Bool := hereG N a q && (decide (0 ≤ i ∧ i ≤ 9) && reqG N a.toNat i.toNat q.toNat)
def reqsG (N : Nt) (a q : Int) : List Int := if hereG N a q = true then reqsTo N a.toNat q.toNat 10 else []
theorem reqsG_len (N : Nt) (a q : Int) : (reqsG N a q).length ≤ 10 := by
  unfold reqsG
  split
  · exact reqsTo_len _ _ _ _
  · simp
/-- A network whose lists have their lengths, and whose flits lead to nodes and have a class: nothing of it is out of range. -/
structure Fit (N : Nt) (k : Nat) : Prop where
  cnt : countG N.W N.H = (k : Int)
  k1 : 1 ≤ k
  k16 : k ≤ 16
  ok : okG N.W N.H = true
  bu : N.bu.length = 10 * k
  ow : N.ow.length = 10 * k
  tu : N.tu.length = 5 * k
  so : N.so.length = k
  ar : N.ar.length = k
  ta : N.ta.length = k * k
  tb : N.tb.length = k * k
  fb : ∀ (j : Nat) D x, N.bu[j]? = some D → x ∈ D → (0 ≤ x.to ∧ x.to < (k : Int)) ∧ (0 ≤ x.cl ∧ x.cl ≤ 1)
  fs : ∀ (j : Nat) D x, N.so[j]? = some D → x ∈ D → (0 ≤ x.to ∧ x.to < (k : Int)) ∧ (0 ≤ x.cl ∧ x.cl ≤ 1)
theorem count_pos {W H : Int} (hok : okG W H = true) : 1 ≤ countG W H := by
  have h := of_decide_eq_true hok
  unfold countG
  rw [if_pos hok]
  have h1 : 1 * 1 ≤ W * H := Int.mul_le_mul (by omega) (by omega) (by omega) (by omega)
  omega
theorem fit_of {N : Nt} (h : netOk N = true) : ∃ k, Fit N k := by
  rw [netOk, Bool.and_eq_true, Bool.and_eq_true, Bool.and_eq_true, Bool.and_eq_true] at h
  obtain ⟨h1, h2, h3, h4, h5⟩ := h
  have h2' := of_decide_eq_true h2
  rw [clsOk, Bool.and_eq_true] at h1
  obtain ⟨m1, l1⟩ := sizedG_mesh (tableG_sized h1.1)
  obtain ⟨_, l2⟩ := sizedG_mesh (tableG_sized h1.2)
  rw [meshG, Bool.and_eq_true] at m1
  have hc := countG_le N.W N.H
  have hp := count_pos m1.1
  obtain ⟨k, hk⟩ : ∃ k : Nat, countG N.W N.H = (k : Int) := ⟨(countG N.W N.H).toNat, by omega⟩
  rw [List.all_eq_true] at h3 h5
  refine ⟨k, hk, by omega, by omega, m1.1, by omega, by omega, by omega, by omega, by omega, ?_, ?_, ?_, ?_⟩
  · rw [hk] at l1; exact_mod_cast l1
  · rw [hk] at l2; exact_mod_cast l2
  · intro j D x hD hx
    have hj := (List.getElem?_eq_some_iff.1 hD).1
    have h6 := h3 j (List.mem_range.2 hj)
    rw [getD_of hD, bufOk, Bool.and_eq_true, Bool.and_eq_true, lstOk, List.all_eq_true] at h6
    have h7 := h6.2.1 x hx
    rw [fltOk, Bool.and_eq_true, hasG_iff, decide_eq_true_eq] at h7
    exact ⟨⟨h7.1.1, by omega⟩, h7.2⟩
  · intro j D x hD hx
    have h6 := h5 D (List.mem_of_getElem? hD)
    rw [srcOk, Bool.and_eq_true, lstOk, List.all_eq_true] at h6
    have h7 := h6.2 x hx
    rw [fltOk, Bool.and_eq_true, hasG_iff, decide_eq_true_eq] at h7
    exact ⟨⟨h7.1.1, by omega⟩, h7.2⟩
end Go.Proofs.Ytplpdjpldadcmaa
end

section
namespace Go.Proofs.Ytplpdjpldadcmaa
open Go.ChangeShapes Go.WideShapes Go.ChangeAt Go.RowKit
set_option linter.unusedVariables false

theorem specIn (x lo hi : Int) (w : World) :
    Calls Try.prog 27 #[.int .i64 x, .int .i64 lo, .int .i64 hi] w fun e w' => e = .returned (.bool (decide (lo ≤ x ∧ x ≤ hi))) ∧ w = w' := by
  by_cases h1 : lo ≤ x
  all_goals
    go_enter Try.func27, Try.ntmps27
    go_wp2
    all_goals go_ret
    all_goals exact ⟨ret_bool (by simp <;> omega), rfl⟩

theorem specInV (x lo hi : Int) (b : Bool) (hb : decide (lo ≤ x ∧ x ≤ hi) = b) (w : World) :
    Calls Try.prog 27 #[.int .i64 x, .int .i64 lo, .int .i64 hi] w fun e w' => e = .returned (.bool b) ∧ w = w' := hb ▸ specIn x lo hi w

theorem box_blk {w w1 : World} {T : TypeId} {cs : Array Value} (h : (w.alloc (.cells cs T)).grownBy w1 none) : Blk w1 w.heap.size T cs := (Blk.new w T cs).grown h (by simp)
theorem box_gb {w w1 : World} {o : Obj} (h : (w.alloc o).grownBy w1 none) : w.grownBy w1 none := gb_trans (gb_alloc (gb_refl _ _) _) h

end Go.Proofs.Ytplpdjpldadcmaa
end

section
namespace Go.Proofs.Ytplpdjpldadcmaa
open Go.ChangeShapes Go.WideShapes Go.ChangeAt Go.RowKit
set_option linter.unusedVariables false

/-- A grid as a value. -/
def gridV (W H : Int) : Value := .agg #[.int .i64 W, .int .i64 H]
def gridC (W H : Int) : Array Value := #[.int .i64 W, .int .i64 H]

theorem specGridOk (W H : Int) (w : World) :
    Calls Try.prog 77 #[.agg #[.int .i64 W, .int .i64 H]] w (RetB (okG W H) w) := by
  by_cases h1 : 1 ≤ W ∧ W ≤ 4
  · by_cases h2 : 1 ≤ H ∧ H ≤ 4
    all_goals
      go_enter Try.func77, Try.ntmps77
      go_wp2_with fail
      refine (specInV W 1 4 true (by simpa using h1) _).mono ?_
      rintro e w1 ⟨rfl, rfl⟩
      go_wp2_with fail
      first
      | refine (specInV H 1 4 true (by simpa using h2) _).mono ?_
      | refine (specInV H 1 4 false (by simpa using h2) _).mono ?_
      rintro e w1 ⟨rfl, rfl⟩
      go_wp2_with fail
      go_ret
      exact ⟨ret_bool (by simp [okG]; omega), gb_alloc (gb_refl _ _) _⟩
  · go_enter Try.func77, Try.ntmps77
    go_wp2_with fail
    refine (specInV W 1 4 false (by simpa using h1) _).mono ?_
    rintro e w1 ⟨rfl, rfl⟩
    go_wp2_with fail
    go_ret
    exact ⟨ret_bool (by simp [okG]; omega), gb_alloc (gb_refl _ _) _⟩

theorem specNodeCount (W H : Int) (w : World) :
    Calls Try.prog 55 #[.agg #[.int .i64 W, .int .i64 H]] w (RetI (countG W H) none w) := by
  cases hok : okG W H with
  | true =>
    obtain ⟨hW, hH⟩ := okG_cases hok
    have hm : wrap64 (W * H) = countG W H := by
      simp only [countG, hok, if_true]
      rcases hW with rfl | rfl | rfl | rfl <;> rcases hH with rfl | rfl | rfl | rfl <;> exact IntWalk.wrap64_in _ (by omega)
    have Hm := Lib.hid hm
    clear hW hH hm
    go_enter Try.func55, Try.ntmps55
    go_wp2_with fail
    refine (specGridOk W H _).mono ?_
    rintro e w1 ⟨rfl, hg⟩
    have hb := box_blk hg
    have c0 : w1.cell? ⟨w.heap.size, 0, none⟩ = some (.int .i64 W) := hb.cell 0
    have c1 : w1.cell? ⟨w.heap.size, 1, none⟩ = some (.int .i64 H) := hb.cell 1
    have Hg := Lib.hid hg
    clear hg hb
    rw [hok]
    go_wp2_with fail
    go_ret
    exact ⟨ret_int64 (by rw [← Hm.out]), box_gb Hg.out⟩
  | false =>
    go_enter Try.func55, Try.ntmps55
    go_wp2_with fail
    refine (specGridOk W H _).mono ?_
    rintro e w1 ⟨rfl, hg⟩
    rw [hok]
    go_wp2_with fail
    go_ret
    exact ⟨ret_int64 (by simp [countG, hok]), box_gb hg⟩
end Go.Proofs.Ytplpdjpldadcmaa
end

section
namespace Go.Proofs.Ytplpdjpldadcmaa
open Go.ChangeShapes Go.WideShapes Go.ChangeAt Go.RowKit
set_option linter.unusedVariables false

theorem specHas (W H n : Int) (w : World) :
    Calls Try.prog 54 #[.agg #[.int .i64 W, .int .i64 H], .int .i64 n] w (RetB (hasG W H n) w) := by
  obtain ⟨k, hk⟩ : ∃ k, countG W H = k := ⟨_, rfl⟩
  have hl := countG_le W H
  rw [hk] at hl
  obtain ⟨hl0, hl1⟩ := hl
  go_enter Try.func54, Try.ntmps54
  go_wp2_with fail
  refine (specNodeCount W H _).mono ?_
  rintro e w1 ⟨rfl, hg⟩
  rw [hk]
  go_wp2_with fail
  refine (specInV n 0 _ (hasG W H n) (by unfold hasG; rw [hk]; exact decide_eq_decide.2 (by omega)) _).mono ?_
  rintro e w2 ⟨rfl, rfl⟩
  go_wp2_with fail
  go_ret
  exact ⟨rfl, box_gb hg⟩
theorem specHasV (W H n : Int) (b : Bool) (h : hasG W H n = b) (w : World) :
    Calls Try.prog 54 #[.agg #[.int .i64 W, .int .i64 H], .int .i64 n] w (RetB b w) := h ▸ specHas W H n w
end Go.Proofs.Ytplpdjpldadcmaa
end

section
namespace Go.Proofs.Ytplpdjpldadcmaa
open Go.ChangeShapes Go.WideShapes Go.ChangeAt Go.RowKit
set_option linter.unusedVariables false

theorem specNodeAt (W H x y : Int) (w : World) :
    Calls Try.prog 87 #[.agg #[.int .i64 W, .int .i64 H], .int .i64 x, .int .i64 y] w (RetI (atG W H x y) none w) := by
  cases hok : okG W H with
  | true =>
    obtain ⟨hW, hH⟩ := okG_cases hok
    by_cases hx : 0 ≤ x ∧ x ≤ W - 1
    · by_cases hy : 0 ≤ y ∧ y ≤ H - 1
      · rcases hW with rfl | rfl | rfl | rfl
        all_goals
          go_enter Try.func87, Try.ntmps87
          go_wp2_with fail
          refine (specGridOk _ H _).mono ?_
          rintro e w1 ⟨rfl, hg⟩
          have hb := box_blk hg
          have c0 := hb.cell 0
          have c1 := hb.cell 1
          have Hg := Lib.hid hg
          clear hg hb
          simp at c0 c1
          rw [hok]
          go_wp2_with fail
          refine (specInV x 0 _ true (by simp; omega) _).mono ?_
          rintro e w2 ⟨rfl, rfl⟩
          go_wp2_with fail
          refine (specInV y 0 _ true (by simp; omega) _).mono ?_
          rintro e w2 ⟨rfl, rfl⟩
          go_wp2_with fail
          go_ret
          exact ⟨ret_int64 (by unfold atG; rw [if_pos ⟨hok, by omega⟩] <;> omega), box_gb Hg.out⟩
      · go_enter Try.func87, Try.ntmps87
        go_wp2_with fail
        refine (specGridOk _ H _).mono ?_
        rintro e w1 ⟨rfl, hg⟩
        have hb := box_blk hg
        have c0 := hb.cell 0
        have c1 := hb.cell 1
        have Hg := Lib.hid hg
        clear hg hb
        simp at c0 c1
        rw [hok]
        go_wp2_with fail
        refine (specInV x 0 _ true (by simp; omega) _).mono ?_
        rintro e w2 ⟨rfl, rfl⟩
        go_wp2_with fail
        refine (specInV y 0 _ false (by simp; omega) _).mono ?_
        rintro e w2 ⟨rfl, rfl⟩
        go_wp2_with fail
        go_ret
        exact ⟨ret_int64 (by unfold atG; rw [if_neg (by rintro ⟨_, _⟩; omega)]), box_gb Hg.out⟩
    · go_enter Try.func87, Try.ntmps87
      go_wp2_with fail
      refine (specGridOk _ H _).mono ?_
      rintro e w1 ⟨rfl, hg⟩
      have hb := box_blk hg
      have c0 := hb.cell 0
      have c1 := hb.cell 1
      have Hg := Lib.hid hg
      clear hg hb
      simp at c0 c1
      rw [hok]
      go_wp2_with fail
      refine (specInV x 0 _ false (by simp; omega) _).mono ?_
      rintro e w2 ⟨rfl, rfl⟩
      go_wp2_with fail
      go_ret
      exact ⟨ret_int64 (by unfold atG; rw [if_neg (by rintro ⟨_, _⟩; omega)]), box_gb Hg.out⟩
  | false =>
    go_enter Try.func87, Try.ntmps87
    go_wp2_with fail
    refine (specGridOk W H _).mono ?_
    rintro e w1 ⟨rfl, hg⟩
    rw [hok]
    go_wp2_with fail
    go_ret
    exact ⟨ret_int64 (by unfold atG; rw [if_neg (by rintro ⟨h, _⟩; rw [hok] at h; cases h)]), box_gb hg⟩
end Go.Proofs.Ytplpdjpldadcmaa
end

section
namespace Go.Proofs.Ytplpdjpldadcmaa
open Go.ChangeShapes Go.WideShapes Go.ChangeAt Go.RowKit
set_option linter.unusedVariables false

theorem specNodeAtV (W H x y n : Int) (h : atG W H x y = n) (w : World) :
    Calls Try.prog 87 #[.agg #[.int .i64 W, .int .i64 H], .int .i64 x, .int .i64 y] w (RetI n none w) := h ▸ specNodeAt W H x y w

theorem specNextNode (W H n p : Int) (w : World) :
    Calls Try.prog 65 #[.agg #[.int .i64 W, .int .i64 H], .int .i64 n, .int .i64 p] w (RetI (nextG W H n p) none w) := by
  cases hh : hasG W H n with
  | true =>
    obtain ⟨hW, hH⟩ := okG_cases (hasG_ok hh).1
    obtain ⟨h0, h1⟩ := hasG_le hh
    have hq := row_wrap h0 h1 hW
    obtain ⟨a0, a1, a2, a3, a4⟩ := place_of hh
    have hW1 : 1 ≤ W := by omega
    have hW2 : W ≤ 4 := by omega
    have hH2 : H ≤ 4 := by omega
    have hN : nextG W H n p = (if p = 0 then atG W H (n % W) (n / W - 1) else if p = 1 then atG W H (n % W + 1) (n / W) else if p = 2 then atG W H (n % W) (n / W + 1) else if p = 3 then atG W H (n % W - 1) (n / W) else if p = 4 then n else -1) := by simp [nextG, hh]
    obtain ⟨x, hx⟩ : ∃ x, n % W = x := ⟨_, rfl⟩
    obtain ⟨y, hy⟩ : ∃ y, n / W = y := ⟨_, rfl⟩
    rw [hx, hy] at hN
    rw [hx] at a0 a1
    rw [hy] at a2 a3 hq
    obtain ⟨r, hr⟩ : ∃ r, nextG W H n p = r := ⟨_, rfl⟩
    rw [hr] at hN ⊢
    have hd : n.tdiv W = y := by rw [Int.tdiv_eq_ediv_of_nonneg h0]; exact hy
    clear a4 hW hH hr hq
    by_cases p0 : p = 0
    · subst p0
      simp at hN
      go_enter Try.func65, Try.ntmps65
      go_wp2_with fail
      refine (specHas W H n _).mono ?_
      rintro e w1 ⟨rfl, hg⟩
      have hb := box_blk hg
      have c0 := hb.cell 0
      have c1 := hb.cell 1
      have Hg := Lib.hid (box_gb hg)
      clear hg hb
      simp at c0 c1
      rw [hh]
      go_wp2_with fail
      simp only [hx]
      refine (specNodeAtV W H (x) (y - 1) r hN.symm _).mono ?_
      rintro e w2 ⟨rfl, hg2⟩
      have Hg2 := Lib.hid hg2
      clear hg2
      go_wp2_with fail
      go_ret
      exact ⟨ret_int64 hN.symm, gb_trans Hg.out Hg2.out⟩
    by_cases p1 : p = 1
    · subst p1
      simp at hN
      go_enter Try.func65, Try.ntmps65
      go_wp2_with fail
      refine (specHas W H n _).mono ?_
      rintro e w1 ⟨rfl, hg⟩
      have hb := box_blk hg
      have c0 := hb.cell 0
      have c1 := hb.cell 1
      have Hg := Lib.hid (box_gb hg)
      clear hg hb
      simp at c0 c1
      rw [hh]
      go_wp2_with fail
      simp only [hx]
      refine (specNodeAtV W H (x + 1) (y) r hN.symm _).mono ?_
      rintro e w2 ⟨rfl, hg2⟩
      have Hg2 := Lib.hid hg2
      clear hg2
      go_wp2_with fail
      go_ret
      exact ⟨ret_int64 hN.symm, gb_trans Hg.out Hg2.out⟩
    by_cases p2 : p = 2
    · subst p2
      simp at hN
      go_enter Try.func65, Try.ntmps65
      go_wp2_with fail
      refine (specHas W H n _).mono ?_
      rintro e w1 ⟨rfl, hg⟩
      have hb := box_blk hg
      have c0 := hb.cell 0
      have c1 := hb.cell 1
      have Hg := Lib.hid (box_gb hg)
      clear hg hb
      simp at c0 c1
      rw [hh]
      go_wp2_with fail
      simp only [hx]
      refine (specNodeAtV W H (x) (y + 1) r hN.symm _).mono ?_
      rintro e w2 ⟨rfl, hg2⟩
      have Hg2 := Lib.hid hg2
      clear hg2
      go_wp2_with fail
      go_ret
      exact ⟨ret_int64 hN.symm, gb_trans Hg.out Hg2.out⟩
    by_cases p3 : p = 3
    · subst p3
      simp at hN
      go_enter Try.func65, Try.ntmps65
      go_wp2_with fail
      refine (specHas W H n _).mono ?_
      rintro e w1 ⟨rfl, hg⟩
      have hb := box_blk hg
      have c0 := hb.cell 0
      have c1 := hb.cell 1
      have Hg := Lib.hid (box_gb hg)
      clear hg hb
      simp at c0 c1
      rw [hh]
      go_wp2_with fail
      simp only [hx]
      refine (specNodeAtV W H (x - 1) (y) r hN.symm _).mono ?_
      rintro e w2 ⟨rfl, hg2⟩
      have Hg2 := Lib.hid hg2
      clear hg2
      go_wp2_with fail
      go_ret
      exact ⟨ret_int64 hN.symm, gb_trans Hg.out Hg2.out⟩
    by_cases p4 : p = 4
    · subst p4
      simp at hN
      go_enter Try.func65, Try.ntmps65
      go_wp2_with fail
      refine (specHas W H n _).mono ?_
      rintro e w1 ⟨rfl, hg⟩
      have hb := box_blk hg
      have c0 := hb.cell 0
      have c1 := hb.cell 1
      have Hg := Lib.hid (box_gb hg)
      clear hg hb
      simp at c0 c1
      rw [hh]
      go_wp2_with fail
      go_ret
      exact ⟨ret_int64 hN.symm, Hg.out⟩
    simp [p0, p1, p2, p3, p4] at hN
    have q0 : (p == 0) = false := by simpa using p0
    have q1 : (p == 1) = false := by simpa using p1
    have q2 : (p == 2) = false := by simpa using p2
    have q3 : (p == 3) = false := by simpa using p3
    have q4 : (p == 4) = false := by simpa using p4
    clear p0 p1 p2 p3 p4
    · skip
      go_enter Try.func65, Try.ntmps65
      go_wp2_with fail
      refine (specHas W H n _).mono ?_
      rintro e w1 ⟨rfl, hg⟩
      have hb := box_blk hg
      have c0 := hb.cell 0
      have c1 := hb.cell 1
      have Hg := Lib.hid (box_gb hg)
      clear hg hb
      simp at c0 c1
      rw [hh]
      go_wp2_with fail
      go_ret
      exact ⟨ret_int64 hN.symm, Hg.out⟩
  | false =>
    go_enter Try.func65, Try.ntmps65
    go_wp2_with fail
    refine (specHas W H n _).mono ?_
    rintro e w1 ⟨rfl, hg⟩
    rw [hh]
    go_wp2_with fail
    go_ret
    exact ⟨ret_int64 (by simp [nextG, hh]), box_gb hg⟩

theorem specNextNodeV (W H n p r : Int) (h : nextG W H n p = r) (w : World) :
    Calls Try.prog 65 #[.agg #[.int .i64 W, .int .i64 H], .int .i64 n, .int .i64 p] w (RetI r none w) := h ▸ specNextNode W H n p w
theorem specNodeCountV (W H k : Int) (h : countG W H = k) (w : World) :
    Calls Try.prog 55 #[.agg #[.int .i64 W, .int .i64 H]] w (RetI k none w) := h ▸ specNodeCount W H w

theorem specLeads (W H c : Int) (w : World) :
    Calls Try.prog 85 #[.agg #[.int .i64 W, .int .i64 H], .int .i64 c] w (RetB (leadsG W H c) w) := by
  obtain ⟨k, hk⟩ : ∃ k, countG W H = k := ⟨_, rfl⟩
  obtain ⟨hk0, hk1⟩ := countG_le W H
  rw [hk] at hk0 hk1
  have hL : leadsG W H c = decide (0 ≤ c ∧ c < 4 * k ∧ 0 ≤ nextG W H (c / 4) (c % 4)) := by rw [leadsG, hk]
  by_cases hc : 0 ≤ c ∧ c ≤ 4 * k - 1
  · have hb : decide (0 ≤ c ∧ c ≤ 4 * k - 1) = true := decide_eq_true hc
    obtain ⟨hc0, hc1⟩ := hc
    have hcN : c ≤ 63 := by omega
    obtain ⟨r, hr⟩ : ∃ r, nextG W H (c / 4) (c % 4) = r := ⟨_, rfl⟩
    have hd : c.tdiv 4 = c / 4 := Int.tdiv_eq_ediv_of_nonneg hc0
    have hm : c.tmod 4 = c % 4 := Int.tmod_eq_emod_of_nonneg hc0
    have hL2 : leadsG W H c = decide (0 ≤ r) := by rw [hL, hr]; exact decide_eq_decide.2 ⟨fun h => h.2.2, fun h => ⟨hc0, by omega, h⟩⟩
    have HL := Lib.hid hL2
    clear hL hL2
    go_enter Try.func85, Try.ntmps85
    go_wp2_with fail
    refine (specNodeCountV W H k hk _).mono ?_
    rintro e w1 ⟨rfl, hg⟩
    have hb1 := box_blk hg
    have c0 := hb1.cell 0
    have c1 := hb1.cell 1
    have Hg := Lib.hid (box_gb hg)
    clear hg hb1
    simp at c0 c1
    go_wp2_with fail
    refine (specInV c 0 _ true hb _).mono ?_
    rintro e w2 ⟨rfl, rfl⟩
    go_wp2_with fail
    refine (specNextNodeV W H (c / 4) (c % 4) r hr _).mono ?_
    rintro e w3 ⟨rfl, hg3⟩
    have Hg3 := Lib.hid hg3
    clear hg3
    go_wp2_with fail
    go_ret
    exact ⟨ret_bool (by rw [HL.out]), gb_trans Hg.out Hg3.out⟩
  · have hb : decide (0 ≤ c ∧ c ≤ 4 * k - 1) = false := decide_eq_false hc
    have hL2 : leadsG W H c = false := by rw [hL]; exact decide_eq_false (fun h => hc ⟨h.1, by omega⟩)
    clear hc hL
    go_enter Try.func85, Try.ntmps85
    go_wp2_with fail
    refine (specNodeCountV W H k hk _).mono ?_
    rintro e w1 ⟨rfl, hg⟩
    have Hg := Lib.hid (box_gb hg)
    clear hg
    go_wp2_with fail
    refine (specInV c 0 _ false hb _).mono ?_
    rintro e w2 ⟨rfl, rfl⟩
    go_wp2_with fail
    go_ret
    exact ⟨ret_bool (by rw [hL2]), Hg.out⟩

theorem specLeadsV (W H c : Int) (b : Bool) (h : leadsG W H c = b) (w : World) :
    Calls Try.prog 85 #[.agg #[.int .i64 W, .int .i64 H], .int .i64 c] w (RetB b w) := h ▸ specLeads W H c w
end Go.Proofs.Ytplpdjpldadcmaa
end

section
namespace Go.Proofs.Ytplpdjpldadcmaa
open Go.ChangeShapes Go.WideShapes Go.ChangeAt Go.RowKit
set_option linter.unusedVariables false
set_option maxRecDepth 20000

section
variable {w : World} {B k : Nat} {y : Na} {N : Nt}
theorem buf_at (h : NetIn w B y N) (j : Nat) (hj : j < N.bu.length) : ∃ b off A' c', y.bu.A = some ⟨b, off, none⟩ ∧ b < B ∧ w.cell? ⟨b, off + j, none⟩ = some (.slice A' (bufA N j).length c') ∧ RecAt 5 fltC w B A' (bufA N j).length (bufA N j) ∧ N.bu[j]? = some (bufA N j) := by
  obtain ⟨b, off, D, A', c', hA, hb, hD, hc, _, hr⟩ := h.bu.at j hj
  have e : bufA N j = D := by rw [bufA, List.getD_eq_getElem?_getD, hD]; rfl
  rw [e]
  exact ⟨b, off, A', c', hA, hb, hc, hr, hD⟩
theorem mod2 (i : Nat) : Int.tmod (i : Int) 2 = ((i % 2 : Nat) : Int) := by rw [Int.tmod_eq_emod_of_nonneg (by omega)]; omega
theorem div2 (i : Nat) : Int.tdiv (i : Int) 2 = ((i / 2 : Nat) : Int) := by rw [Int.tdiv_eq_ediv_of_nonneg (by omega)]; omega
theorem wrapN {x : Int} {n : Nat} (h : x = (n : Int)) (hn : n ≤ 1000000) : IntKind.i64.wrap x = (n : Int) := by rw [h, IntWalk.i64_in _ (by omega)]
theorem cell_lt {w : World} {b o : Nat} {v : Value} (h : w.cell? ⟨b, o, none⟩ = some v) : b < w.heap.size := by
  rcases Nat.lt_or_ge b w.heap.size with h1 | h1
  · exact h1
  · simp [World.cell?, Array.getElem?_eq_none h1] at h
theorem getD_in {l : List Int} {j : Nat} {d e : Int} (h : j < l.length) : l.getD j d = l.getD j e := by simp [List.getD_eq_getElem?_getD, h]
theorem sq_ltW {a t k : Nat} (ha : a < k) (ht : t < k) : a * k + t < k * k := by
  have h1 : (a + 1) * k ≤ k * k := Nat.mul_le_mul_right k (by omega)
  rw [Nat.add_mul] at h1
  omega
end
set_option maxHeartbeats 3200000 in
theorem specWanted (y : Na) (N : Nt) (k a i : Nat) (w : World) (h : NetIn w w.heap.size y N) (hf : Fit N k) (ha : a < k) (hi : i < 10) :
    Calls Try.prog 28 #[.agg #[.int .i64 N.W, .int .i64 N.H, .slice y.br.A N.br.length y.br.c, .slice y.ta.A N.ta.length y.ta.c, .slice y.tb.A N.tb.length y.tb.c, .slice y.bu.A N.bu.length y.bu.c, .slice y.ow.A N.ow.length y.ow.c, .slice y.tu.A N.tu.length y.tu.c, .slice y.so.A N.so.length y.so.c, .slice y.ar.A N.ar.length y.ar.c, .int .i64 N.ti], .int .i64 (a : Int), .int .i64 (i : Int)] w (RetI (wantG N a i) none w) := by
  obtain ⟨⟨A0, c0⟩, ⟨A1, c1⟩, ⟨A2, c2⟩, ⟨A3, c3⟩, ⟨A4, c4⟩, ⟨A5, c5⟩, ⟨A6, c6⟩, ⟨A7, c7⟩⟩ := y
  dsimp only at *
  have hk16 := hf.k16
  have HF := Lib.hid hf
  have HNC := Lib.hid (fun w' => specNodeCountV N.W N.H (k : Int) hf.cnt w')
  have hkk : k * k ≤ 256 := Nat.mul_le_mul hk16 hk16
  have hjl : 10 * a + i < N.bu.length := by rw [hf.bu]; omega
  obtain ⟨sb, so, A', c', hA, _, _, _, _⟩ := buf_at h (10 * a + i) hjl
  dsimp only at hA
  subst hA
  obtain ⟨ob, oo, hOA, _, _⟩ := h.ow.at 0 (by rw [hf.ow]; omega)
  dsimp only at hOA
  subst hOA
  have ge := gb_alloc (gb_refl w none) (.cells #[.int .i64 N.W, .int .i64 N.H, .slice A0 N.br.length c0, .slice A1 N.ta.length c1, .slice A2 N.tb.length c2, .slice (some ⟨sb, so, none⟩) N.bu.length c3, .slice (some ⟨ob, oo, none⟩) N.ow.length c4, .slice A5 N.tu.length c5, .slice A6 N.so.length c6, .slice A7 N.ar.length c7, .int .i64 N.ti] 44)
  have hin := (h.none (Nat.le_refl _) ge).more ge.size
  have kb := Blk.new w 44 #[.int .i64 N.W, .int .i64 N.H, .slice A0 N.br.length c0, .slice A1 N.ta.length c1, .slice A2 N.tb.length c2, .slice (some ⟨sb, so, none⟩) N.bu.length c3, .slice (some ⟨ob, oo, none⟩) N.ow.length c4, .slice A5 N.tu.length c5, .slice A6 N.so.length c6, .slice A7 N.ar.length c7, .int .i64 N.ti]
  obtain ⟨sb', so', A', c', hA, _, hcell, hrd, hDj⟩ := buf_at hin (10 * a + i) hjl
  simp only [Option.some.injEq, Addr.mk.injEq] at hA
  obtain ⟨rfl, rfl, _⟩ := hA
  have hw := show wantG N a i = wantL N a i (bufA N (10 * a + i)) from rfl
  obtain ⟨D, hD⟩ : ∃ D, bufA N (10 * a + i) = D := ⟨_, rfl⟩
  rw [hD] at hcell hrd hDj hw
  have HW := Lib.hid hw
  obtain ⟨j0, hj0⟩ : ∃ j0, 10 * a = j0 := ⟨_, rfl⟩
  obtain ⟨j, hj⟩ : ∃ j, 10 * a + i = j := ⟨_, rfl⟩
  have HJ0 := Lib.hid hj0
  have HJ := Lib.hid hj
  have e1 : IntKind.i64.wrap (10 * (a : Int)) = (j0 : Int) := wrapN (by omega) (by omega)
  have e2 : IntKind.i64.wrap ((j0 : Int) + (i : Int)) = (j : Int) := wrapN (by omega) (by omega)
  have e3 := mod2 i
  have e4 := div2 i
  obtain ⟨i2, hi2⟩ : ∃ q, i % 2 = q := ⟨_, rfl⟩
  obtain ⟨d2, hd2⟩ : ∃ q, i / 2 = q := ⟨_, rfl⟩
  rw [hi2] at e3
  rw [hd2] at e4
  have HI2 := Lib.hid hi2
  have HD2 := Lib.hid hd2
  have HE5 : Hid (wrap64 (d2 : Int) = (d2 : Int)) := Lib.hid (IntWalk.wrap64_in _ (by omega))
  have f0 : (0 : Int) ≤ (j : Int) := by omega
  rw [hj] at hcell hDj hjl
  have f1 : (j : Int) < (N.bu.length : Int) := by omega
  have KB := Lib.hid kb
  have GE := Lib.hid ge
  have HI := Lib.hid hin
  clear kb ge hin hD hw hf hj hj0 h hi2 hd2
  go_enter Try.func28, Try.ntmps28
  cases D with
  | nil =>
    simp only [List.length_nil] at hcell
    go_wp2_with fail
    go_ret
    exact ⟨by rw [HW.out]; rfl, GE.out⟩
  | cons x tl =>
    have hx5 := hrd.at 0 (by simp)
    obtain ⟨xb, xo, x', rfl, _, hx', hxc⟩ := hx5
    obtain rfl : x = x' := by simpa using hx'
    obtain ⟨x0, x1, x2, x3, x4⟩ := flt_five hxc
    simp only [Nat.zero_mul, Nat.add_zero] at x0 x1 x2 x3 x4
    obtain ⟨m, hm⟩ : ∃ m, (x :: tl).length = m := ⟨_, rfl⟩
    have hm0 : 0 < m := by rw [← hm]; simp
    have hm1 : ¬ (m : Int) = 0 := by omega
    have hm2 : (0 : Int) < (m : Int) := by omega
    rw [hm] at hcell
    have hto := HF.out.fb j _ x hDj (List.mem_cons_self ..)
    obtain ⟨t, ht⟩ : ∃ t : Nat, x.to = (t : Int) := ⟨x.to.toNat, by omega⟩
    have ht2 : x.to.toNat = t := by omega
    rw [ht] at x1
    have htk : t < k := by omega
    obtain ⟨hd, hhd⟩ : ∃ b, x.hd = b := ⟨_, rfl⟩
    rw [hhd] at x3
    have HH := Lib.hid hhd
    have HT2 := Lib.hid ht2
    have HXC := Lib.hid hxc
    clear hrd hDj hxc hx' hhd ht ht2 hm hto
    cases hd with
    | true =>
      go_wp2_with fail
      refine (HNC.out _).mono ?_
      rintro e w1 ⟨rfl, hg1⟩
      have G1 := Lib.hid (gb_trans GE.out hg1)
      have KB1 := Lib.hid (KB.out.grown hg1 (by simp))
      have hin1 := (HI.out.none (Nat.le_refl _) hg1).more hg1.size
      have hlt := sq_ltW ha htk
      obtain ⟨ak, hak⟩ : ∃ q, a * k = q := ⟨_, rfl⟩
      have g1 : IntKind.i64.wrap ((a : Int) * (k : Int)) = (ak : Int) := wrapN (by rw [← hak, Int.natCast_mul]) (by omega)
      have xx1 : w1.cell? ⟨xb, xo + 1, none⟩ = some (.int .i64 (t : Int)) := by
        have hb := (hg1.block xb (cell_lt x1) (by simp))
        exact (World.cell?_of_block hb).trans x1
      obtain ⟨u, hu⟩ : ∃ u, a * k + t = u := ⟨_, rfl⟩
      have hkc : (countG N.W N.H).toNat = k := by rw [HF.out.cnt]; rfl
      have HU := Lib.hid hu
      have g2 : IntKind.i64.wrap ((ak : Int) + (t : Int)) = (u : Int) := wrapN (by omega) (by omega)
      have f2 : (0 : Int) ≤ (u : Int) := by omega
      have HKC := Lib.hid hkc
      have HA1 := Lib.hid (hin1.ta.at u (by rw [HF.out.ta]; omega))
      have HB1 := Lib.hid (hin1.tb.at u (by rw [HF.out.tb]; omega))
      have hl1 : (u : Int) < (N.ta.length : Int) := by rw [HF.out.ta]; omega
      have hl2 : (u : Int) < (N.tb.length : Int) := by rw [HF.out.tb]; omega
      clear hg1 hin1 hu hak hkc hcell x0 x1 x2 x3 x4
      by_cases hc : i2 = 1
      · have hc2 : (i2 : Int) = 1 := by omega
        obtain ⟨tb, to', hTA, _, hTC⟩ := HB1.out
        have a4 : w1.cell? ⟨w.heap.size, 4, none⟩ = some (.slice A2 N.tb.length c2) := KB1.out.cell 4
        dsimp only at hTA
        rw [hTA] at a4
        have HC := Lib.hid hc
        clear hTA hc
        go_wp2_with fail
        go_region_law (first | fail)
        all_goals
          go_wp2_with fail
          go_ret
          refine ⟨?_, gb_drew G1.out⟩
          rw [HW.out, wantL, if_pos HH.out, tabC, if_pos (HI2.out.trans HC.out), HT2.out, HKC.out, HU.out]
          rfl
      · have hc2 : ¬ (i2 : Int) = 1 := by omega
        obtain ⟨tb, to', hTA, _, hTC⟩ := HA1.out
        have a3 : w1.cell? ⟨w.heap.size, 3, none⟩ = some (.slice A1 N.ta.length c1) := KB1.out.cell 3
        dsimp only at hTA
        rw [hTA] at a3
        have HC := Lib.hid hc
        clear hTA hc
        go_wp2_with fail
        go_region_law (first | fail)
        all_goals
          go_wp2_with fail
          go_ret
          refine ⟨?_, gb_drew G1.out⟩
          rw [HW.out, wantL, if_pos HH.out, tabC, if_neg (by rw [HI2.out]; exact HC.out), HT2.out, HKC.out, HU.out]
          rfl
    | false =>
      have HNH := Lib.hid (show wantG N a i = leastTo N a i 5 by rw [HW.out, wantL, if_neg (by rw [HH.out]; decide)])
      go_wp2_with fail
      go_loopw [10] (fun v wr => ∃ p : Nat, v = .int .i64 (p : Int) ∧ p ≤ 5 ∧ (∀ q, q < p → ownP N a i q = false) ∧ wr = w.alloc (.cells #[.int .i64 N.W, .int .i64 N.H, .slice A0 N.br.length c0, .slice A1 N.ta.length c1, .slice A2 N.tb.length c2, .slice (some ⟨sb, so, none⟩) N.bu.length c3, .slice (some ⟨ob, oo, none⟩) N.ow.length c4, .slice A5 N.tu.length c5, .slice A6 N.so.length c6, .slice A7 N.ar.length c7, .int .i64 N.ti] 44)) (fun v _ => 5 - (intOf v).toNat)
      case atStart => exact ⟨0, rfl, by omega, fun q hq => by omega, rfl⟩
      case round =>
        obtain ⟨p, rfl, hp, hall, rfl⟩ := hrel
        have HALL := Lib.hid hall
        by_cases hlt : p ≤ 4
        · have g0 : (p : Int) ≤ 4 := by omega
          have hql : 10 * a + 2 * p + i % 2 < N.ow.length := by rw [HF.out.ow]; omega
          obtain ⟨ob', oo', hOA', _, hoc⟩ := HI.out.ow.at (10 * a + 2 * p + i % 2) hql
          simp only [Option.some.injEq, Addr.mk.injEq] at hOA'
          obtain ⟨rfl, rfl, _⟩ := hOA'
          have hgd : N.ow.getD (10 * a + 2 * p + i % 2) 0 = N.ow.getD (10 * a + 2 * p + i % 2) (-2) := getD_in hql
          rw [hgd] at hoc
          have HOP := Lib.hid (show ownP N a i p = decide (N.ow.getD (10 * a + 2 * p + i % 2) (-2) = ((i / 2 : Nat) : Int)) from rfl)
          obtain ⟨z, hz⟩ : ∃ z, N.ow.getD (10 * a + 2 * p + i % 2) (-2) = z := ⟨_, rfl⟩
          obtain ⟨p2, hp2⟩ : ∃ q, 2 * p = q := ⟨_, rfl⟩
          obtain ⟨s1, hs1⟩ : ∃ q, 10 * a + 2 * p = q := ⟨_, rfl⟩
          obtain ⟨q, hq⟩ : ∃ q, 10 * a + 2 * p + i % 2 = q := ⟨_, rfl⟩
          rw [hz, HD2.out] at HOP
          rw [hz, hq] at hoc
          rw [hq] at hql
          have HI2' := HI2.out
          have HJ0' := HJ0.out
          have g1 : IntKind.i64.wrap (2 * (p : Int)) = (p2 : Int) := wrapN (by omega) (by omega)
          have g2 : IntKind.i64.wrap ((j0 : Int) + (p2 : Int)) = (s1 : Int) := wrapN (by omega) (by omega)
          have g3 : IntKind.i64.wrap ((s1 : Int) + (i2 : Int)) = (q : Int) := wrapN (by omega) (by omega)
          have g4 : IntKind.i64.wrap ((p : Int) + 1) = ((p + 1 : Nat) : Int) := wrapN (by omega) (by omega)
          have f2 : (0 : Int) ≤ (q : Int) := by omega
          have f3 : (q : Int) < (N.ow.length : Int) := by omega
          clear hall hgd hz hq hp2 hs1 HI2' HJ0'
          by_cases hzz : z = (d2 : Int)
          · have HPP := Lib.hid (HNH.out.trans (leastTo_yes HALL.out (by rw [HOP.out]; exact decide_eq_true hzz) (by omega)))
            have e5 := HE5.out
            go_wp2_with fail
            clear e5
            go_ret
            exact ⟨by rw [HPP.out]; rfl, GE.out⟩
          · have HZZ := Lib.hid hzz
            have e6 : (z == wrap64 (d2 : Int)) = false := by rw [HE5.out]; exact beq_eq_false_iff_ne.2 hzz
            clear hzz
            go_wp2_with fail
            clear e6
            go_roundw
            case rel => exact ⟨p + 1, by go_num, by omega, fun q hq => by
              rcases Nat.lt_or_ge q p with h1 | h1
              · exact HALL.out q h1
              · obtain rfl : q = p := by omega
                rw [HOP.out]; exact decide_eq_false HZZ.out, by first | rfl | trivial⟩
            case measure => simp [intOf]; omega
        · obtain rfl : p = 5 := by omega
          have HPP := Lib.hid (HNH.out.trans (leastTo_no HALL.out))
          clear hall
          go_wp2_with fail
          go_ret
          exact ⟨by rw [HPP.out]; rfl, GE.out⟩
end Go.Proofs.Ytplpdjpldadcmaa
end

section
namespace Go.Proofs.Ytplpdjpldadcmaa
open Go.ChangeShapes Go.WideShapes Go.ChangeAt Go.RowKit
set_option linter.unusedVariables false
set_option linter.unusedSimpArgs false

theorem specFind (A : Option Addr) (n cap B : Nat) (L : List Int) (c : Int) (w : World) (h : IntAt w B A n L) (hn : n ≤ 1000000000) :
    Calls Try.prog 86 #[.slice A n cap, .int .i64 c] w fun e w' => e = .returned (.bool (inG L c)) ∧ w = w' := by
  have hl := h.1
  have HI := Lib.hid h
  clear h
  go_enter Try.func86, Try.ntmps86
  go_wp2_with fail
  go_loop [5] (fun i => ∃ k : Nat, i = .int .i64 (k : Int) ∧ k ≤ n ∧ ∀ j, j < k → L.getD j 0 ≠ c) (fun i => n - (intOf i).toNat)
  case atStart => exact ⟨0, rfl, Nat.zero_le _, fun j h => by omega⟩
  case round =>
    obtain ⟨k, rfl, hk, hne⟩ := hrel
    have HNE := Lib.hid hne
    clear hne
    by_cases hlt : k < n
    · obtain ⟨b, off, rfl, hb, hc⟩ := HI.out.at k hlt
      obtain ⟨x, hx⟩ : ∃ x, L.getD k 0 = x := ⟨_, rfl⟩
      rw [hx] at hc
      have HX := Lib.hid hx
      clear hx
      by_cases hxc : x = c
      · subst hxc
        go_wp2_with fail
        go_ret
        exact ⟨ret_bool (inG_yes (by omega) HX.out).symm, rfl⟩
      · have hxb : (x == c) = false := by simpa using hxc
        have HXC := Lib.hid hxc
        clear hxc
        go_wp2_with fail
        go_round
        case rel => exact ⟨k + 1, by go_num, by omega, fun j hj => by
          rcases Nat.lt_succ_iff_lt_or_eq.1 hj with h1 | rfl
          · exact HNE.out j h1
          · rw [HX.out]; exact HXC.out⟩
        case measure => simp [intOf]; omega
    · obtain rfl : k = n := by omega
      go_wp2_with fail
      go_ret
      exact ⟨ret_bool (inG_no (fun j hj => HNE.out j (by omega))).symm, rfl⟩
theorem specFindV (A : Option Addr) (n cap B : Nat) (L : List Int) (c : Int) (b : Bool) (hb : inG L c = b) (w : World) (h : IntAt w B A n L) (hn : n ≤ 1000000000) :
    Calls Try.prog 86 #[.slice A n cap, .int .i64 c] w fun e w' => e = .returned (.bool b) ∧ w = w' := hb ▸ specFind A n cap B L c w h hn
end Go.Proofs.Ytplpdjpldadcmaa
end

section
namespace Go.Proofs.Ytplpdjpldadcmaa
open Go.ChangeShapes Go.WideShapes Go.ChangeAt Go.RowKit
set_option linter.unusedVariables false

/-- A mesh as the cells of a block. -/
def meshC (W H : Int) (A : Option Addr) (n cap : Nat) : Array Value := #[.int .i64 W, .int .i64 H, .slice A n cap]
def MeshAt (W H : Int) (L : List Int) (A : Option Addr) (n cap : Nat) (w : World) (k : Nat) (wr : World) : Prop :=
  goodTo W H L k ∧ (w.alloc (.cells (meshC W H A n cap) 38)).grownBy wr none
end Go.Proofs.Ytplpdjpldadcmaa
end

section
namespace Go.Proofs.Ytplpdjpldadcmaa
open Go.ChangeShapes Go.WideShapes Go.ChangeAt Go.RowKit
set_option linter.unusedVariables false
set_option linter.unusedSimpArgs false

theorem gb_undraw {a b : World} {row : Option Nat} (h : a.drew.grownBy b row) : a.grownBy b row := ⟨h.os, h.tape, h.output, h.size, h.block⟩

set_option maxHeartbeats 3200000 in
theorem specMeshOk (W H : Int) (A : Option Addr) (n cap : Nat) (L : List Int) (w : World) (h : IntAt w w.heap.size A n L) (hn : n ≤ 1000000000) :
    Calls Try.prog 107 #[.agg #[.int .i64 W, .int .i64 H, .slice A n cap]] w (RetB (meshG W H L) w) := by
  have hl := h.1
  have HI := Lib.hid h
  clear h
  cases hok : okG W H with
  | false =>
    go_enter Try.func107, Try.ntmps107
    go_wp2_with fail
    refine (specGridOk W H _).mono ?_
    rintro e w1 ⟨rfl, hg⟩
    rw [hok]
    go_wp2_with fail
    go_ret
    exact ⟨ret_bool (meshG_bad hok).symm, box_gb hg⟩
  | true =>
    go_enter Try.func107, Try.ntmps107
    go_wp2_with fail
    refine (specGridOk W H _).mono ?_
    rintro e w1 ⟨rfl, hg⟩
    have HM := Lib.hid (show MeshAt W H L A n cap w 0 w1 from ⟨goodTo_zero W H L, hg⟩)
    clear hg
    rw [hok]
    go_wp2_with fail
    go_loopw [3] (fun i wr => ∃ k : Nat, i = .int .i64 (k : Int) ∧ k ≤ n ∧ MeshAt W H L A n cap w k wr) (fun i _ => n - (intOf i).toNat)
    case atStart => exact ⟨0, rfl, Nat.zero_le _, HM.out⟩
    case round =>
      obtain ⟨k, rfl, hk, hgood, hg⟩ := hrel
      have HGo := Lib.hid hgood
      have HG := Lib.hid hg
      have hbk := box_blk hg
      have HBK := Lib.hid hbk
      have a0 : wr.cell? ⟨w.heap.size, 0, none⟩ = some (.int .i64 W) := hbk.cell 0
      have a1 : wr.cell? ⟨w.heap.size, 1, none⟩ = some (.int .i64 H) := hbk.cell 1
      have a2 : wr.cell? ⟨w.heap.size, 2, none⟩ = some (.slice A n cap) := hbk.cell 2
      have hia := HI.out.none (Nat.le_refl _) (box_gb hg)
      have HIA := Lib.hid hia
      clear hg hgood hbk
      by_cases hlt : k < n
      · obtain ⟨b, off, rfl, hb, hc⟩ := hia.at k hlt
        obtain ⟨x, hx⟩ : ∃ x, L.getD k 0 = x := ⟨_, rfl⟩
        rw [hx] at hc
        clear hia
        have hk0 : (0 : Int) ≤ (k : Int) := by omega
        have hk1 : (k : Int) < (n : Int) := by omega
        cases hld : leadsG W H x with
        | false =>
          have HBad := Lib.hid (meshG_no (by omega) (goodAt_lead hx hld))
          have CL := Lib.hid (fun w => specLeadsV W H x false hld w)
          clear hx hld
          go_wp2_with fail
          refine wp_region_held_drew (S := (fun w' => w'.cell? ⟨w.heap.size, 0, none⟩ = some (.int .i64 W) ∧ w'.cell? ⟨w.heap.size, 1, none⟩ = some (.int .i64 H) ∧ w'.cell? ⟨w.heap.size, 2, none⟩ = some (.slice (some ⟨b, off, none⟩) n cap) ∧ w'.cell? ⟨b, off + k, none⟩ = some (.int .i64 x))) (by kernel_rfl) (⟨a0, a1, a2, hc⟩) (fun hHeld => ?_)
          refine wpAnyH_take (i := 0) (v := ?_) rfl (by kernel_rfl) (by kernel_rfl) (by kernel_rfl) (fun _ _ _ h => h) (Or.inl ⟨by rfl, ?_⟩) (by assumption) ?_
          rotate_left
          · intro wq hSw; (try dsimp only at hSw); go_simp; (try with_reducible rfl)
          simp only [List.getElem_toArray, List.getElem_cons_succ, List.getElem_cons_zero, Act.put, List.setIfInBounds_toArray, List.set_cons_zero, List.set_cons_succ]
          refine wpAnyH_take (i := 1) (v := ?_) rfl (by kernel_rfl) (by kernel_rfl) (by kernel_rfl) (fun _ _ _ h => h) (Or.inl ⟨by rfl, ?_⟩) (by assumption) ?_
          rotate_left
          · intro wq hSw; (try dsimp only at hSw); go_simp; (try with_reducible rfl)
          simp only [List.getElem_toArray, List.getElem_cons_succ, List.getElem_cons_zero, Act.put, List.setIfInBounds_toArray, List.set_cons_zero, List.set_cons_succ]
          refine wpAnyH_take (i := 2) (v := ?_) rfl (by kernel_rfl) (by kernel_rfl) (by kernel_rfl) (fun _ _ _ h => h) (Or.inl ⟨by rfl, ?_⟩) (by assumption) ?_
          rotate_left
          · intro wq hSw; (try dsimp only at hSw); go_simp; (try with_reducible rfl)
          simp only [List.getElem_toArray, List.getElem_cons_succ, List.getElem_cons_zero, Act.put, List.setIfInBounds_toArray, List.set_cons_zero, List.set_cons_succ]
          refine wpAnyH_take (i := 3) (v := ?_) rfl (by kernel_rfl) (by kernel_rfl) (by kernel_rfl) (fun _ _ _ h => h) (Or.inl ⟨by rfl, ?_⟩) (by assumption) ?_
          rotate_left
          · intro wq hSw; (try dsimp only at hSw); go_simp; (try with_reducible rfl)
          simp only [List.getElem_toArray, List.getElem_cons_succ, List.getElem_cons_zero, Act.put, List.setIfInBounds_toArray, List.set_cons_zero, List.set_cons_succ]
          refine wpAnyH_take (i := 4) (v := ?_) rfl (by kernel_rfl) (by kernel_rfl) (by kernel_rfl) (fun _ _ _ h => h) (Or.inl ⟨by rfl, ?_⟩) (by assumption) ?_
          rotate_left
          · intro wq hSw; (try dsimp only at hSw); go_simp; (try with_reducible rfl)
          simp only [List.getElem_toArray, List.getElem_cons_succ, List.getElem_cons_zero, Act.put, List.setIfInBounds_toArray, List.set_cons_zero, List.set_cons_succ]
          refine wpAnyH_take (i := 5) (v := ?_) rfl (by kernel_rfl) (by kernel_rfl) (by kernel_rfl) (fun _ _ _ h => h) (Or.inl ⟨by rfl, ?_⟩) (by assumption) ?_
          rotate_left
          · intro wq hSw; (try dsimp only at hSw); go_simp; (try with_reducible rfl)
          simp only [List.getElem_toArray, List.getElem_cons_succ, List.getElem_cons_zero, Act.put, List.setIfInBounds_toArray, List.set_cons_zero, List.set_cons_succ]
          refine wpAnyH_take (i := 6) (v := ?_) rfl (by kernel_rfl) (by kernel_rfl) (by kernel_rfl) (fun _ _ _ h => h) (Or.inl ⟨by rfl, ?_⟩) (by assumption) ?_
          rotate_left
          · intro wq hSw; (try dsimp only at hSw); go_simp; (try with_reducible rfl)
          simp only [List.getElem_toArray, List.getElem_cons_succ, List.getElem_cons_zero, Act.put, List.setIfInBounds_toArray, List.set_cons_zero, List.set_cons_succ]
          refine wpAnyH_ready (rs := [7]) (by kernel_rfl) (by simp) ?_
          refine AllReadyH.cons rfl (fun K hK => ?_) AllReadyH.nil
          go_simp
          (with_reducible refine (CL.out _).mono ?_); rintro e w2 ⟨rfl, hg2⟩; have hg3 := gb_trans HG.out (gb_undraw hg2); have kk := box_blk hg3; have d0 : w2.cell? ⟨w.heap.size, 0, none⟩ = some (.int .i64 W) := kk.cell 0; have d1 : w2.cell? ⟨w.heap.size, 1, none⟩ = some (.int .i64 H) := kk.cell 1; have d2 : w2.cell? ⟨w.heap.size, 2, none⟩ = some (.slice (some ⟨b, off, none⟩) n cap) := kk.cell 2; have dc := (hg2.cell hc (by simp)); have HG3 := Lib.hid hg3; clear hg2 hg3 kk
          try go_wp2_with fail
          refine hK.out _ _ (⟨d0, d1, d2, dc⟩) (fun hHeld => ?_)
          clear hK K
          try simp only [List.getElem_toArray, List.getElem_cons_succ, List.getElem_cons_zero, Act.put, List.setIfInBounds_toArray, List.set_cons_zero, List.set_cons_succ]
          refine wpAnyH_take (i := 8) (v := ?_) rfl (by kernel_rfl) (by kernel_rfl) (by kernel_rfl) (fun _ _ _ h => h) (Or.inl ⟨by rfl, ?_⟩) (by assumption) ?_
          rotate_left
          · intro wq hSw; (try dsimp only at hSw); go_simp; (try with_reducible rfl)
          simp only [List.getElem_toArray, List.getElem_cons_succ, List.getElem_cons_zero, Act.put, List.setIfInBounds_toArray, List.set_cons_zero, List.set_cons_succ]
          refine wpAnyH_take (i := 9) (v := ?_) rfl (by kernel_rfl) (by kernel_rfl) (by kernel_rfl) (fun _ _ _ h => h) (Or.inl ⟨by rfl, ?_⟩) (by assumption) ?_
          rotate_left
          · intro wq hSw; (try dsimp only at hSw); go_simp; (try with_reducible rfl)
          simp only [List.getElem_toArray, List.getElem_cons_succ, List.getElem_cons_zero, Act.put, List.setIfInBounds_toArray, List.set_cons_zero, List.set_cons_succ]
          refine wpAnyH_take (i := 10) (v := undef) rfl (by kernel_rfl) (by kernel_rfl) (by kernel_rfl) (fun _ _ _ h => h) (Or.inr ⟨by rfl, rfl⟩) (by assumption) ?_
          simp only [List.getElem_toArray, List.getElem_cons_succ, List.getElem_cons_zero, Act.put, List.setIfInBounds_toArray, List.set_cons_zero, List.set_cons_succ]
          refine wpAnyH_take (i := 11) (v := undef) rfl (by kernel_rfl) (by kernel_rfl) (by kernel_rfl) (fun _ _ _ h => h) (Or.inr ⟨by rfl, rfl⟩) (by assumption) ?_
          simp only [List.getElem_toArray, List.getElem_cons_succ, List.getElem_cons_zero, Act.put, List.setIfInBounds_toArray, List.set_cons_zero, List.set_cons_succ]
          refine wpAnyH_take (i := 12) (v := undef) rfl (by kernel_rfl) (by kernel_rfl) (by kernel_rfl) (fun _ _ _ h => h) (Or.inr ⟨by rfl, rfl⟩) (by assumption) ?_
          simp only [List.getElem_toArray, List.getElem_cons_succ, List.getElem_cons_zero, Act.put, List.setIfInBounds_toArray, List.set_cons_zero, List.set_cons_succ]
          refine wpAnyH_take (i := 13) (v := undef) rfl (by kernel_rfl) (by kernel_rfl) (by kernel_rfl) (fun _ _ _ h => h) (Or.inr ⟨by rfl, rfl⟩) (by assumption) ?_
          simp only [List.getElem_toArray, List.getElem_cons_succ, List.getElem_cons_zero, Act.put, List.setIfInBounds_toArray, List.set_cons_zero, List.set_cons_succ]
          refine wpAnyH_take (i := 14) (v := undef) rfl (by kernel_rfl) (by kernel_rfl) (by kernel_rfl) (fun _ _ _ h => h) (Or.inr ⟨by rfl, rfl⟩) (by assumption) ?_
          simp only [List.getElem_toArray, List.getElem_cons_succ, List.getElem_cons_zero, Act.put, List.setIfInBounds_toArray, List.set_cons_zero, List.set_cons_succ]
          refine wpAnyH_take (i := 15) (v := undef) rfl (by kernel_rfl) (by kernel_rfl) (by kernel_rfl) (fun _ _ _ h => h) (Or.inr ⟨by rfl, rfl⟩) (by assumption) ?_
          simp only [List.getElem_toArray, List.getElem_cons_succ, List.getElem_cons_zero, Act.put, List.setIfInBounds_toArray, List.set_cons_zero, List.set_cons_succ]
          refine wpAnyH_take (i := 16) (v := undef) rfl (by kernel_rfl) (by kernel_rfl) (by kernel_rfl) (fun _ _ _ h => h) (Or.inr ⟨by rfl, rfl⟩) (by assumption) ?_
          simp only [List.getElem_toArray, List.getElem_cons_succ, List.getElem_cons_zero, Act.put, List.setIfInBounds_toArray, List.set_cons_zero, List.set_cons_succ]
          refine wpAnyH_take (i := 17) (v := undef) rfl (by kernel_rfl) (by kernel_rfl) (by kernel_rfl) (fun _ _ _ h => h) (Or.inr ⟨by rfl, rfl⟩) (by assumption) ?_
          simp only [List.getElem_toArray, List.getElem_cons_succ, List.getElem_cons_zero, Act.put, List.setIfInBounds_toArray, List.set_cons_zero, List.set_cons_succ]
          refine wpAnyH_take (i := 18) (v := undef) rfl (by kernel_rfl) (by kernel_rfl) (by kernel_rfl) (fun _ _ _ h => h) (Or.inr ⟨by rfl, rfl⟩) (by assumption) ?_
          simp only [List.getElem_toArray, List.getElem_cons_succ, List.getElem_cons_zero, Act.put, List.setIfInBounds_toArray, List.set_cons_zero, List.set_cons_succ]
          refine wpAnyH_take (i := 19) (v := undef) rfl (by kernel_rfl) (by kernel_rfl) (by kernel_rfl) (fun _ _ _ h => h) (Or.inr ⟨by rfl, rfl⟩) (by assumption) ?_
          simp only [List.getElem_toArray, List.getElem_cons_succ, List.getElem_cons_zero, Act.put, List.setIfInBounds_toArray, List.set_cons_zero, List.set_cons_succ]
          refine wpAnyH_take (i := 20) (v := undef) rfl (by kernel_rfl) (by kernel_rfl) (by kernel_rfl) (fun _ _ _ h => h) (Or.inr ⟨by rfl, rfl⟩) (by assumption) ?_
          simp only [List.getElem_toArray, List.getElem_cons_succ, List.getElem_cons_zero, Act.put, List.setIfInBounds_toArray, List.set_cons_zero, List.set_cons_succ]
          refine wpAnyH_take (i := 21) (v := undef) rfl (by kernel_rfl) (by kernel_rfl) (by kernel_rfl) (fun _ _ _ h => h) (Or.inr ⟨by rfl, rfl⟩) (by assumption) ?_
          simp only [List.getElem_toArray, List.getElem_cons_succ, List.getElem_cons_zero, Act.put, List.setIfInBounds_toArray, List.set_cons_zero, List.set_cons_succ]
          refine wpAnyH_take (i := 22) (v := undef) rfl (by kernel_rfl) (by kernel_rfl) (by kernel_rfl) (fun _ _ _ h => h) (Or.inr ⟨by rfl, rfl⟩) (by assumption) ?_
          simp only [List.getElem_toArray, List.getElem_cons_succ, List.getElem_cons_zero, Act.put, List.setIfInBounds_toArray, List.set_cons_zero, List.set_cons_succ]
          refine wpAnyH_take (i := 23) (v := undef) rfl (by kernel_rfl) (by kernel_rfl) (by kernel_rfl) (fun _ _ _ h => h) (Or.inr ⟨by rfl, rfl⟩) (by assumption) ?_
          simp only [List.getElem_toArray, List.getElem_cons_succ, List.getElem_cons_zero, Act.put, List.setIfInBounds_toArray, List.set_cons_zero, List.set_cons_succ]
          refine wpAnyH_take (i := 24) (v := undef) rfl (by kernel_rfl) (by kernel_rfl) (by kernel_rfl) (fun _ _ _ h => h) (Or.inr ⟨by rfl, rfl⟩) (by assumption) ?_
          simp only [List.getElem_toArray, List.getElem_cons_succ, List.getElem_cons_zero, Act.put, List.setIfInBounds_toArray, List.set_cons_zero, List.set_cons_succ]
          refine wpAnyH_take (i := 25) (v := undef) rfl (by kernel_rfl) (by kernel_rfl) (by kernel_rfl) (fun _ _ _ h => h) (Or.inr ⟨by rfl, rfl⟩) (by assumption) ?_
          simp only [List.getElem_toArray, List.getElem_cons_succ, List.getElem_cons_zero, Act.put, List.setIfInBounds_toArray, List.set_cons_zero, List.set_cons_succ]
          refine wpAnyH_take (i := 26) (v := ?_) rfl (by kernel_rfl) (by kernel_rfl) (by kernel_rfl) (fun _ _ _ h => h) (Or.inl ⟨by rfl, ?_⟩) (by assumption) ?_
          rotate_left
          · intro wq hSw; (try dsimp only at hSw); go_simp; (try with_reducible rfl)
          simp only [List.getElem_toArray, List.getElem_cons_succ, List.getElem_cons_zero, Act.put, List.setIfInBounds_toArray, List.set_cons_zero, List.set_cons_succ]
          refine wpAnyH_done (by kernel_rfl) ?_ _
          go_wp2_with fail
          go_ret
          exact ⟨ret_bool HBad.out.symm, box_gb HG3.out⟩
        | true =>
          have CL := Lib.hid (fun w => specLeadsV W H x true hld w)
          cases k with
          | zero =>
            have HNx := Lib.hid (goodTo_succ HGo.out (goodAt_first hx hld))
            clear hx hld
            rw [Nat.add_zero] at hc
            go_wp2_with fail
            refine wp_region_held_drew (S := (fun w' => w'.cell? ⟨w.heap.size, 0, none⟩ = some (.int .i64 W) ∧ w'.cell? ⟨w.heap.size, 1, none⟩ = some (.int .i64 H) ∧ w'.cell? ⟨w.heap.size, 2, none⟩ = some (.slice (some ⟨b, off, none⟩) n cap) ∧ w'.cell? ⟨b, off, none⟩ = some (.int .i64 x))) (by kernel_rfl) (⟨a0, a1, a2, hc⟩) (fun hHeld => ?_)
            refine wpAnyH_take (i := 0) (v := ?_) rfl (by kernel_rfl) (by kernel_rfl) (by kernel_rfl) (fun _ _ _ h => h) (Or.inl ⟨by rfl, ?_⟩) (by assumption) ?_
            rotate_left
            · intro wq hSw; (try dsimp only at hSw); go_simp; (try with_reducible rfl)
            simp only [List.getElem_toArray, List.getElem_cons_succ, List.getElem_cons_zero, Act.put, List.setIfInBounds_toArray, List.set_cons_zero, List.set_cons_succ]
            refine wpAnyH_take (i := 1) (v := ?_) rfl (by kernel_rfl) (by kernel_rfl) (by kernel_rfl) (fun _ _ _ h => h) (Or.inl ⟨by rfl, ?_⟩) (by assumption) ?_
            rotate_left
            · intro wq hSw; (try dsimp only at hSw); go_simp; (try with_reducible rfl)
            simp only [List.getElem_toArray, List.getElem_cons_succ, List.getElem_cons_zero, Act.put, List.setIfInBounds_toArray, List.set_cons_zero, List.set_cons_succ]
            refine wpAnyH_take (i := 2) (v := ?_) rfl (by kernel_rfl) (by kernel_rfl) (by kernel_rfl) (fun _ _ _ h => h) (Or.inl ⟨by rfl, ?_⟩) (by assumption) ?_
            rotate_left
            · intro wq hSw; (try dsimp only at hSw); go_simp; (try with_reducible rfl)
            simp only [List.getElem_toArray, List.getElem_cons_succ, List.getElem_cons_zero, Act.put, List.setIfInBounds_toArray, List.set_cons_zero, List.set_cons_succ]
            refine wpAnyH_take (i := 3) (v := ?_) rfl (by kernel_rfl) (by kernel_rfl) (by kernel_rfl) (fun _ _ _ h => h) (Or.inl ⟨by rfl, ?_⟩) (by assumption) ?_
            rotate_left
            · intro wq hSw; (try dsimp only at hSw); go_simp; (try with_reducible rfl)
            simp only [List.getElem_toArray, List.getElem_cons_succ, List.getElem_cons_zero, Act.put, List.setIfInBounds_toArray, List.set_cons_zero, List.set_cons_succ]
            refine wpAnyH_take (i := 4) (v := ?_) rfl (by kernel_rfl) (by kernel_rfl) (by kernel_rfl) (fun _ _ _ h => h) (Or.inl ⟨by rfl, ?_⟩) (by assumption) ?_
            rotate_left
            · intro wq hSw; (try dsimp only at hSw); go_simp; (try with_reducible rfl)
            simp only [List.getElem_toArray, List.getElem_cons_succ, List.getElem_cons_zero, Act.put, List.setIfInBounds_toArray, List.set_cons_zero, List.set_cons_succ]
            refine wpAnyH_take (i := 5) (v := ?_) rfl (by kernel_rfl) (by kernel_rfl) (by kernel_rfl) (fun _ _ _ h => h) (Or.inl ⟨by rfl, ?_⟩) (by assumption) ?_
            rotate_left
            · intro wq hSw; (try dsimp only at hSw); go_simp; (try with_reducible rfl)
            simp only [List.getElem_toArray, List.getElem_cons_succ, List.getElem_cons_zero, Act.put, List.setIfInBounds_toArray, List.set_cons_zero, List.set_cons_succ]
            refine wpAnyH_take (i := 6) (v := ?_) rfl (by kernel_rfl) (by kernel_rfl) (by kernel_rfl) (fun _ _ _ h => h) (Or.inl ⟨by rfl, ?_⟩) (by assumption) ?_
            rotate_left
            · intro wq hSw; (try dsimp only at hSw); go_simp; (try with_reducible rfl)
            simp only [List.getElem_toArray, List.getElem_cons_succ, List.getElem_cons_zero, Act.put, List.setIfInBounds_toArray, List.set_cons_zero, List.set_cons_succ]
            refine wpAnyH_ready (rs := [7]) (by kernel_rfl) (by simp) ?_
            refine AllReadyH.cons rfl (fun K hK => ?_) AllReadyH.nil
            go_simp
            (with_reducible refine (CL.out _).mono ?_); rintro e w2 ⟨rfl, hg2⟩; have hg3 := gb_trans HG.out (gb_undraw hg2); have kk := box_blk hg3; have d0 : w2.cell? ⟨w.heap.size, 0, none⟩ = some (.int .i64 W) := kk.cell 0; have d1 : w2.cell? ⟨w.heap.size, 1, none⟩ = some (.int .i64 H) := kk.cell 1; have d2 : w2.cell? ⟨w.heap.size, 2, none⟩ = some (.slice (some ⟨b, off, none⟩) n cap) := kk.cell 2; have dc := (hg2.cell hc (by simp)); have HG3 := Lib.hid hg3; clear hg2 hg3 kk
            try go_wp2_with fail
            refine hK.out _ _ (⟨d0, d1, d2, dc⟩) (fun hHeld => ?_)
            clear hK K
            try simp only [List.getElem_toArray, List.getElem_cons_succ, List.getElem_cons_zero, Act.put, List.setIfInBounds_toArray, List.set_cons_zero, List.set_cons_succ]
            refine wpAnyH_take (i := 8) (v := ?_) rfl (by kernel_rfl) (by kernel_rfl) (by kernel_rfl) (fun _ _ _ h => h) (Or.inl ⟨by rfl, ?_⟩) (by assumption) ?_
            rotate_left
            · intro wq hSw; (try dsimp only at hSw); go_simp; (try with_reducible rfl)
            simp only [List.getElem_toArray, List.getElem_cons_succ, List.getElem_cons_zero, Act.put, List.setIfInBounds_toArray, List.set_cons_zero, List.set_cons_succ]
            refine wpAnyH_take (i := 9) (v := ?_) rfl (by kernel_rfl) (by kernel_rfl) (by kernel_rfl) (fun _ _ _ h => h) (Or.inl ⟨by rfl, ?_⟩) (by assumption) ?_
            rotate_left
            · intro wq hSw; (try dsimp only at hSw); go_simp; (try with_reducible rfl)
            simp only [List.getElem_toArray, List.getElem_cons_succ, List.getElem_cons_zero, Act.put, List.setIfInBounds_toArray, List.set_cons_zero, List.set_cons_succ]
            refine wpAnyH_take (i := 10) (v := ?_) rfl (by kernel_rfl) (by kernel_rfl) (by kernel_rfl) (fun _ _ _ h => h) (Or.inl ⟨by rfl, ?_⟩) (by assumption) ?_
            rotate_left
            · intro wq hSw; (try dsimp only at hSw); go_simp; (try with_reducible rfl)
            simp only [List.getElem_toArray, List.getElem_cons_succ, List.getElem_cons_zero, Act.put, List.setIfInBounds_toArray, List.set_cons_zero, List.set_cons_succ]
            refine wpAnyH_take (i := 11) (v := ?_) rfl (by kernel_rfl) (by kernel_rfl) (by kernel_rfl) (fun _ _ _ h => h) (Or.inl ⟨by rfl, ?_⟩) (by assumption) ?_
            rotate_left
            · intro wq hSw; (try dsimp only at hSw); go_simp; (try with_reducible rfl)
            simp only [List.getElem_toArray, List.getElem_cons_succ, List.getElem_cons_zero, Act.put, List.setIfInBounds_toArray, List.set_cons_zero, List.set_cons_succ]
            refine wpAnyH_take (i := 12) (v := ?_) rfl (by kernel_rfl) (by kernel_rfl) (by kernel_rfl) (fun _ _ _ h => h) (Or.inl ⟨by rfl, ?_⟩) (by assumption) ?_
            rotate_left
            · intro wq hSw; (try dsimp only at hSw); go_simp; (try with_reducible rfl)
            simp only [List.getElem_toArray, List.getElem_cons_succ, List.getElem_cons_zero, Act.put, List.setIfInBounds_toArray, List.set_cons_zero, List.set_cons_succ]
            refine wpAnyH_take (i := 13) (v := undef) rfl (by kernel_rfl) (by kernel_rfl) (by kernel_rfl) (fun _ _ _ h => h) (Or.inr ⟨by rfl, rfl⟩) (by assumption) ?_
            simp only [List.getElem_toArray, List.getElem_cons_succ, List.getElem_cons_zero, Act.put, List.setIfInBounds_toArray, List.set_cons_zero, List.set_cons_succ]
            refine wpAnyH_take (i := 14) (v := undef) rfl (by kernel_rfl) (by kernel_rfl) (by kernel_rfl) (fun _ _ _ h => h) (Or.inr ⟨by rfl, rfl⟩) (by assumption) ?_
            simp only [List.getElem_toArray, List.getElem_cons_succ, List.getElem_cons_zero, Act.put, List.setIfInBounds_toArray, List.set_cons_zero, List.set_cons_succ]
            refine wpAnyH_take (i := 15) (v := undef) rfl (by kernel_rfl) (by kernel_rfl) (by kernel_rfl) (fun _ _ _ h => h) (Or.inr ⟨by rfl, rfl⟩) (by assumption) ?_
            simp only [List.getElem_toArray, List.getElem_cons_succ, List.getElem_cons_zero, Act.put, List.setIfInBounds_toArray, List.set_cons_zero, List.set_cons_succ]
            refine wpAnyH_take (i := 16) (v := undef) rfl (by kernel_rfl) (by kernel_rfl) (by kernel_rfl) (fun _ _ _ h => h) (Or.inr ⟨by rfl, rfl⟩) (by assumption) ?_
            simp only [List.getElem_toArray, List.getElem_cons_succ, List.getElem_cons_zero, Act.put, List.setIfInBounds_toArray, List.set_cons_zero, List.set_cons_succ]
            refine wpAnyH_take (i := 17) (v := undef) rfl (by kernel_rfl) (by kernel_rfl) (by kernel_rfl) (fun _ _ _ h => h) (Or.inr ⟨by rfl, rfl⟩) (by assumption) ?_
            simp only [List.getElem_toArray, List.getElem_cons_succ, List.getElem_cons_zero, Act.put, List.setIfInBounds_toArray, List.set_cons_zero, List.set_cons_succ]
            refine wpAnyH_take (i := 18) (v := undef) rfl (by kernel_rfl) (by kernel_rfl) (by kernel_rfl) (fun _ _ _ h => h) (Or.inr ⟨by rfl, rfl⟩) (by assumption) ?_
            simp only [List.getElem_toArray, List.getElem_cons_succ, List.getElem_cons_zero, Act.put, List.setIfInBounds_toArray, List.set_cons_zero, List.set_cons_succ]
            refine wpAnyH_take (i := 19) (v := undef) rfl (by kernel_rfl) (by kernel_rfl) (by kernel_rfl) (fun _ _ _ h => h) (Or.inr ⟨by rfl, rfl⟩) (by assumption) ?_
            simp only [List.getElem_toArray, List.getElem_cons_succ, List.getElem_cons_zero, Act.put, List.setIfInBounds_toArray, List.set_cons_zero, List.set_cons_succ]
            refine wpAnyH_take (i := 20) (v := undef) rfl (by kernel_rfl) (by kernel_rfl) (by kernel_rfl) (fun _ _ _ h => h) (Or.inr ⟨by rfl, rfl⟩) (by assumption) ?_
            simp only [List.getElem_toArray, List.getElem_cons_succ, List.getElem_cons_zero, Act.put, List.setIfInBounds_toArray, List.set_cons_zero, List.set_cons_succ]
            refine wpAnyH_take (i := 21) (v := undef) rfl (by kernel_rfl) (by kernel_rfl) (by kernel_rfl) (fun _ _ _ h => h) (Or.inr ⟨by rfl, rfl⟩) (by assumption) ?_
            simp only [List.getElem_toArray, List.getElem_cons_succ, List.getElem_cons_zero, Act.put, List.setIfInBounds_toArray, List.set_cons_zero, List.set_cons_succ]
            refine wpAnyH_take (i := 22) (v := undef) rfl (by kernel_rfl) (by kernel_rfl) (by kernel_rfl) (fun _ _ _ h => h) (Or.inr ⟨by rfl, rfl⟩) (by assumption) ?_
            simp only [List.getElem_toArray, List.getElem_cons_succ, List.getElem_cons_zero, Act.put, List.setIfInBounds_toArray, List.set_cons_zero, List.set_cons_succ]
            refine wpAnyH_take (i := 23) (v := undef) rfl (by kernel_rfl) (by kernel_rfl) (by kernel_rfl) (fun _ _ _ h => h) (Or.inr ⟨by rfl, rfl⟩) (by assumption) ?_
            simp only [List.getElem_toArray, List.getElem_cons_succ, List.getElem_cons_zero, Act.put, List.setIfInBounds_toArray, List.set_cons_zero, List.set_cons_succ]
            refine wpAnyH_take (i := 24) (v := undef) rfl (by kernel_rfl) (by kernel_rfl) (by kernel_rfl) (fun _ _ _ h => h) (Or.inr ⟨by rfl, rfl⟩) (by assumption) ?_
            simp only [List.getElem_toArray, List.getElem_cons_succ, List.getElem_cons_zero, Act.put, List.setIfInBounds_toArray, List.set_cons_zero, List.set_cons_succ]
            refine wpAnyH_take (i := 25) (v := ?_) rfl (by kernel_rfl) (by kernel_rfl) (by kernel_rfl) (fun _ _ _ h => h) (Or.inl ⟨by rfl, ?_⟩) (by assumption) ?_
            rotate_left
            · intro wq hSw; (try dsimp only at hSw); go_simp; (try with_reducible rfl)
            simp only [List.getElem_toArray, List.getElem_cons_succ, List.getElem_cons_zero, Act.put, List.setIfInBounds_toArray, List.set_cons_zero, List.set_cons_succ]
            refine wpAnyH_take (i := 26) (v := ?_) rfl (by kernel_rfl) (by kernel_rfl) (by kernel_rfl) (fun _ _ _ h => h) (Or.inl ⟨by rfl, ?_⟩) (by assumption) ?_
            rotate_left
            · intro wq hSw; (try dsimp only at hSw); go_simp; (try with_reducible rfl)
            simp only [List.getElem_toArray, List.getElem_cons_succ, List.getElem_cons_zero, Act.put, List.setIfInBounds_toArray, List.set_cons_zero, List.set_cons_succ]
            refine wpAnyH_done (by kernel_rfl) ?_ _
            go_wp2_with fail
            go_roundw
            case rel => exact ⟨1, by go_num, by omega, HNx.out, HG3.out⟩
            case measure => simp [intOf] <;> omega
          | succ j =>
            obtain ⟨b', off', hbe, _, hc2⟩ := HIA.out.at j (by omega)
            obtain ⟨rfl, rfl⟩ : b = b' ∧ off = off' := by injection hbe with h1; injection h1 with h2 h3; exact ⟨h2, h3⟩
            obtain ⟨y, hy⟩ : ∃ y, L.getD j 0 = y := ⟨_, rfl⟩
            rw [hy] at hc2
            have hga := goodAt_next hx hy hld
            have e1 : IntKind.i64.wrap ((j : Int) + 1 - 1) = (j : Int) := by rw [Int.add_sub_cancel]; exact IntWalk.i64_in _ (by omega)
            have e2 : IntKind.i64.wrap (((j + 1 : Nat) : Int) - 1) = (j : Int) := by rw [IntWalk.i64_in _ (by omega)]; omega
            have e3 : IntKind.i64.wrap (j : Int) = (j : Int) := IntWalk.i64_in _ (by omega)
            have j0 : (0 : Int) ≤ (j : Int) := by omega
            have j1 : (j : Int) < (n : Int) := by omega
            have j2 : (0 : Int) ≤ (j : Int) + 1 := by omega
            have j3 : (j : Int) + 1 < (n : Int) := by omega
            have j4 : ((j : Int) + 1).toNat = j + 1 := by omega
            by_cases hyx : y < x
            · have hle : decide (x ≤ y) = false := decide_eq_false (by omega)
              have hgd : goodAt W H L (j + 1) = true := by rw [hga]; exact decide_eq_true hyx
              have HNx := Lib.hid (goodTo_succ HGo.out hgd)
              clear hx hy hld hbe hga hgd hyx
              go_wp2_with fail
              first
              | go_region_held3 (fun w' => w'.cell? ⟨w.heap.size, 0, none⟩ = some (.int .i64 W) ∧ w'.cell? ⟨w.heap.size, 1, none⟩ = some (.int .i64 H) ∧ w'.cell? ⟨w.heap.size, 2, none⟩ = some (.slice (some ⟨b, off, none⟩) n cap) ∧ w'.cell? ⟨b, off + (j + 1), none⟩ = some (.int .i64 x) ∧ w'.cell? ⟨b, off + j, none⟩ = some (.int .i64 y))
                  (first | exact ⟨a0, a1, a2, hc, hc2⟩ | exact ⟨d0, d1, d2, dc, dc2⟩)
                  (first | (go_at_call 85; (with_reducible refine (CL.out _).mono ?_); rintro e w2 ⟨rfl, hg2⟩; have hg3 := gb_trans HG.out (gb_undraw hg2); have kk := box_blk hg3; have d0 : w2.cell? ⟨w.heap.size, 0, none⟩ = some (.int .i64 W) := kk.cell 0; have d1 : w2.cell? ⟨w.heap.size, 1, none⟩ = some (.int .i64 H) := kk.cell 1; have d2 : w2.cell? ⟨w.heap.size, 2, none⟩ = some (.slice (some ⟨b, off, none⟩) n cap) := kk.cell 2; have dc := (hg2.cell hc (by simp)); have dc2 := (hg2.cell hc2 (by simp)); have HG3 := Lib.hid hg3; clear hg2 hg3 kk) | fail)
              | fail "held"
              all_goals
                go_wp2_with fail
                go_roundw
                case rel => exact ⟨j + 2, by go_num, by omega, HNx.out, HG3.out⟩
                case measure => simp [intOf] <;> omega
            · have hle : decide (x ≤ y) = true := decide_eq_true (by omega)
              have hgd : goodAt W H L (j + 1) = false := by rw [hga]; exact decide_eq_false hyx
              have HBad := Lib.hid (meshG_no (i := j + 1) (by omega) hgd)
              clear hx hy hld hbe hga hgd hyx
              go_wp2_with fail
              first
              | go_region_held3 (fun w' => w'.cell? ⟨w.heap.size, 0, none⟩ = some (.int .i64 W) ∧ w'.cell? ⟨w.heap.size, 1, none⟩ = some (.int .i64 H) ∧ w'.cell? ⟨w.heap.size, 2, none⟩ = some (.slice (some ⟨b, off, none⟩) n cap) ∧ w'.cell? ⟨b, off + (j + 1), none⟩ = some (.int .i64 x) ∧ w'.cell? ⟨b, off + j, none⟩ = some (.int .i64 y))
                  (first | exact ⟨a0, a1, a2, hc, hc2⟩ | exact ⟨d0, d1, d2, dc, dc2⟩)
                  (first | (go_at_call 85; (with_reducible refine (CL.out _).mono ?_); rintro e w2 ⟨rfl, hg2⟩; have hg3 := gb_trans HG.out (gb_undraw hg2); have kk := box_blk hg3; have d0 : w2.cell? ⟨w.heap.size, 0, none⟩ = some (.int .i64 W) := kk.cell 0; have d1 : w2.cell? ⟨w.heap.size, 1, none⟩ = some (.int .i64 H) := kk.cell 1; have d2 : w2.cell? ⟨w.heap.size, 2, none⟩ = some (.slice (some ⟨b, off, none⟩) n cap) := kk.cell 2; have dc := (hg2.cell hc (by simp)); have dc2 := (hg2.cell hc2 (by simp)); have HG3 := Lib.hid hg3; clear hg2 hg3 kk) | fail)
              | fail "held"
              all_goals
                go_wp2_with fail
                go_ret
                exact ⟨ret_bool HBad.out.symm, box_gb HG3.out⟩
      · obtain rfl : k = n := by omega
        clear hia
        go_wp2_with fail
        go_ret
        exact ⟨ret_bool (meshG_yes hok (by rw [hl]; exact HGo.out)).symm, box_gb HG.out⟩
end Go.Proofs.Ytplpdjpldadcmaa
end

section
namespace Go.Proofs.Ytplpdjpldadcmaa
open Go.ChangeShapes Go.WideShapes Go.ChangeAt Go.RowKit
set_option linter.unusedVariables false

theorem specMeshOkV (W H : Int) (A : Option Addr) (n cap : Nat) (L : List Int) (b : Bool) (hb : meshG W H L = b) (w : World) (h : IntAt w w.heap.size A n L) (hn : n ≤ 1000000000) :
    Calls Try.prog 107 #[.agg #[.int .i64 W, .int .i64 H, .slice A n cap]] w (RetB b w) := hb ▸ specMeshOk W H A n cap L w h hn

theorem specHasCh (W H : Int) (A : Option Addr) (n cap : Nat) (L : List Int) (c : Int) (w : World) (h : IntAt w w.heap.size A n L) (hn : n ≤ 1000000000) :
    Calls Try.prog 64 #[.agg #[.int .i64 W, .int .i64 H, .slice A n cap], .int .i64 c] w (RetB (hasChG W H L c) w) := by
  have HI := Lib.hid h
  clear h
  cases hld : leadsG W H c with
  | false =>
    go_enter Try.func64, Try.ntmps64
    go_wp2_with fail
    refine (specLeadsV W H c false hld _).mono ?_
    rintro e w1 ⟨rfl, hg⟩
    have Hg := Lib.hid (box_gb hg)
    clear hg
    go_wp2_with fail
    go_ret
    exact ⟨ret_bool (by simp [hasChG, hld]), Hg.out⟩
  | true =>
    obtain ⟨b, hb⟩ : ∃ b, inG L c = b := ⟨_, rfl⟩
    have hr : hasChG W H L c = !b := by simp [hasChG, hld, hb]
    have HR := Lib.hid hr
    clear hr
    go_enter Try.func64, Try.ntmps64
    go_wp2_with fail
    refine (specLeadsV W H c true hld _).mono ?_
    rintro e w1 ⟨rfl, hg⟩
    have hbk := box_blk hg
    have a2 := hbk.cell 2
    simp at a2
    have hi := HI.out.none (Nat.le_refl _) (box_gb hg)
    have Hg := Lib.hid (box_gb hg)
    clear hg hbk
    go_wp2_with fail
    refine (specFindV A n cap w.heap.size L c b hb _ hi hn).mono ?_
    rintro e w2 ⟨rfl, rfl⟩
    clear hi
    go_wp2_with fail
    go_ret
    exact ⟨ret_bool (by rw [HR.out]), Hg.out⟩

theorem specHasChV (W H : Int) (A : Option Addr) (n cap : Nat) (L : List Int) (c : Int) (b : Bool) (hb : hasChG W H L c = b) (w : World) (h : IntAt w w.heap.size A n L) (hn : n ≤ 1000000000) :
    Calls Try.prog 64 #[.agg #[.int .i64 W, .int .i64 H, .slice A n cap], .int .i64 c] w (RetB b w) := hb ▸ specHasCh W H A n cap L c w h hn
end Go.Proofs.Ytplpdjpldadcmaa
end

section
namespace Go.Proofs.Ytplpdjpldadcmaa
open Go.ChangeShapes Go.WideShapes Go.ChangeAt Go.RowKit
set_option linter.unusedVariables false

theorem specOpposite (p : Int) (w : World) :
    Calls Try.prog 66 #[.int .i64 p] w fun e w' => e = .returned (.int .i64 (oppG p)) ∧ w = w' := by
  by_cases p4 : p = 4
  · subst p4
    go_enter Try.func66, Try.ntmps66
    go_wp2_with fail
    go_ret
    exact ⟨rfl, rfl⟩
  · have q4 : (p == 4) = false := by simpa using p4
    by_cases hp : 0 ≤ p ∧ p ≤ 3
    · have hv : oppG p = (p + 2) % 4 := by
        have : p = 0 ∨ p = 1 ∨ p = 2 ∨ p = 3 := by omega
        rcases this with rfl | rfl | rfl | rfl <;> decide
      have hb : decide (0 ≤ p ∧ p ≤ 3) = true := decide_eq_true hp
      obtain ⟨hp0, hp1⟩ := hp
      clear p4
      go_enter Try.func66, Try.ntmps66
      go_wp2_with fail
      refine (specInV p 0 3 true hb _).mono ?_
      rintro e w2 ⟨rfl, rfl⟩
      go_wp2_with fail
      go_ret
      exact ⟨ret_int64 (by rw [hv]), rfl⟩
    · have hv : oppG p = -1 := by unfold oppG; (repeat' split) <;> omega
      have hb : decide (0 ≤ p ∧ p ≤ 3) = false := decide_eq_false hp
      clear p4 hp
      go_enter Try.func66, Try.ntmps66
      go_wp2_with fail
      refine (specInV p 0 3 false hb _).mono ?_
      rintro e w2 ⟨rfl, rfl⟩
      go_wp2_with fail
      go_ret
      exact ⟨ret_int64 (by rw [hv]), rfl⟩
end Go.Proofs.Ytplpdjpldadcmaa
end

section
namespace Go.Proofs.Ytplpdjpldadcmaa
open Go.ChangeShapes Go.WideShapes Go.ChangeAt Go.RowKit
set_option linter.unusedVariables false
set_option maxRecDepth 20000

theorem opp_in {q : Nat} (h : q < 4) : ∃ o : Nat, oppG (q : Int) = (o : Int) ∧ o < 4 := by
  have hq : q = 0 ∨ q = 1 ∨ q = 2 ∨ q = 3 := by omega
  rcases hq with rfl | rfl | rfl | rfl
  · exact ⟨2, rfl, by omega⟩
  · exact ⟨3, rfl, by omega⟩
  · exact ⟨0, rfl, by omega⟩
  · exact ⟨1, rfl, by omega⟩
theorem next_in {W H : Int} {L : List Int} {a q k : Nat} (hk : countG W H = (k : Int)) (hq : q < 4) (h : hasChG W H L ((4 * a + q : Nat) : Int) = true) : ∃ m : Nat, nextG W H a q = (m : Int) ∧ m < k := by
  rw [hasChG, Bool.and_eq_true, leadsG, decide_eq_true_eq] at h
  have h1 := h.1.2.2
  rw [show ((4 * a + q : Nat) : Int) / 4 = (a : Int) by omega, show ((4 * a + q : Nat) : Int) % 4 = (q : Int) by omega] at h1
  have h2 := next_has h1
  rw [hasG_iff, hk] at h2
  exact ⟨(nextG W H a q).toNat, by omega, by omega⟩
set_option maxHeartbeats 3200000 in
theorem specRoom (y : Na) (N : Nt) (k a q c : Nat) (w : World) (h : NetIn w w.heap.size y N) (hn : NetSm N) (hf : Fit N k) (ha : a < k) (hq : q ≤ 4) (hc : c ≤ 1) :
    Calls Try.prog 39 #[.agg #[.int .i64 N.W, .int .i64 N.H, .slice y.br.A N.br.length y.br.c, .slice y.ta.A N.ta.length y.ta.c, .slice y.tb.A N.tb.length y.tb.c, .slice y.bu.A N.bu.length y.bu.c, .slice y.ow.A N.ow.length y.ow.c, .slice y.tu.A N.tu.length y.tu.c, .slice y.so.A N.so.length y.so.c, .slice y.ar.A N.ar.length y.ar.c, .int .i64 N.ti], .int .i64 (a : Int), .int .i64 (q : Int), .int .i64 (c : Int)] w (RetB (roomG N a q c) w) := by
  obtain ⟨⟨A0, c0⟩, ⟨A1, c1⟩, ⟨A2, c2⟩, ⟨A3, c3⟩, ⟨A4, c4⟩, ⟨A5, c5⟩, ⟨A6, c6⟩, ⟨A7, c7⟩⟩ := y
  dsimp only at *
  have hk16 := hf.k16
  have hbr := hn.br
  by_cases h4 : q = 4
  · have hr : roomG N a q c = true := by rw [roomG, decide_eq_true h4]; rfl
    have e1 : (q : Int) = 4 := by omega
    have HR := Lib.hid hr
    have GE := Lib.hid (gb_alloc (gb_refl w none) (.cells #[.int .i64 N.W, .int .i64 N.H, .slice A0 N.br.length c0, .slice A1 N.ta.length c1, .slice A2 N.tb.length c2, .slice A3 N.bu.length c3, .slice A4 N.ow.length c4, .slice A5 N.tu.length c5, .slice A6 N.so.length c6, .slice A7 N.ar.length c7, .int .i64 N.ti] 44))
    clear h hn hf hr
    go_enter Try.func39, Try.ntmps39
    go_wp2_with fail
    go_ret
    exact ⟨by rw [HR.out]; rfl, GE.out⟩
  have hq4 : q < 4 := by omega
  have hne : ¬ (q : Int) = 4 := by omega
  obtain ⟨s0, hs0⟩ : ∃ s, 4 * a = s := ⟨_, rfl⟩
  obtain ⟨s1, hs1⟩ : ∃ s, 4 * a + q = s := ⟨_, rfl⟩
  have e1 : IntKind.i64.wrap (4 * (a : Int)) = (s0 : Int) := wrapN (by omega) (by omega)
  have e2 : IntKind.i64.wrap ((s0 : Int) + (q : Int)) = (s1 : Int) := wrapN (by omega) (by omega)
  have hro : roomG N a q c = (hasChG N.W N.H N.br (s1 : Int) && decide ((bufA N (10 * (nextG N.W N.H a q).toNat + 2 * (oppG q).toNat + c)).length < 3)) := by rw [roomG, decide_eq_false h4, hs1]; rfl
  have HRO := Lib.hid hro
  cases hch : hasChG N.W N.H N.br (s1 : Int) with
  | false =>
    have HR := Lib.hid (show roomG N a q c = false by rw [hro, hch]; rfl)
    have HHC := Lib.hid (fun w' (hh : IntAt w' w'.heap.size A0 N.br.length N.br) => specHasChV N.W N.H A0 N.br.length c0 N.br (s1 : Int) false hch w' hh hbr)
    have ge := gb_alloc (gb_refl w none) (.cells #[.int .i64 N.W, .int .i64 N.H, .slice A0 N.br.length c0, .slice A1 N.ta.length c1, .slice A2 N.tb.length c2, .slice A3 N.bu.length c3, .slice A4 N.ow.length c4, .slice A5 N.tu.length c5, .slice A6 N.so.length c6, .slice A7 N.ar.length c7, .int .i64 N.ti] 44)
    have HB := Lib.hid ((h.br.none (Nat.le_refl _) ge).more ge.size)
    have GE := Lib.hid ge
    clear h hn hf hro hch ge hs0 hs1
    go_enter Try.func39, Try.ntmps39
    go_wp2_with fail
    refine (HHC.out _ HB.out).mono ?_
    rintro e w1 ⟨rfl, hg1⟩
    go_wp2_with fail
    go_ret
    exact ⟨by rw [HR.out]; rfl, gb_trans GE.out hg1⟩
  | true =>
    have hch' : hasChG N.W N.H N.br ((4 * a + q : Nat) : Int) = true := by rw [hs1]; exact hch
    obtain ⟨m, hm, hmk⟩ := next_in hf.cnt hq4 hch'
    obtain ⟨p, hp, hp4⟩ := opp_in hq4
    have hjl : 10 * m + 2 * p + c < N.bu.length := by rw [hf.bu]; omega
    have HHC := Lib.hid (fun w' (hh : IntAt w' w'.heap.size A0 N.br.length N.br) => specHasChV N.W N.H A0 N.br.length c0 N.br (s1 : Int) true hch w' hh hbr)
    have HNX := Lib.hid (fun w' => specNextNodeV N.W N.H a q m hm w')
    have HOP := Lib.hid (fun w' => by have := specOpposite (q : Int) w'; rw [hp] at this; exact this)
    have ge := gb_alloc (gb_refl w none) (.cells #[.int .i64 N.W, .int .i64 N.H, .slice A0 N.br.length c0, .slice A1 N.ta.length c1, .slice A2 N.tb.length c2, .slice A3 N.bu.length c3, .slice A4 N.ow.length c4, .slice A5 N.tu.length c5, .slice A6 N.so.length c6, .slice A7 N.ar.length c7, .int .i64 N.ti] 44)
    have HIN := Lib.hid ((h.none (Nat.le_refl _) ge).more ge.size)
    have KB := Lib.hid (Blk.new w 44 #[.int .i64 N.W, .int .i64 N.H, .slice A0 N.br.length c0, .slice A1 N.ta.length c1, .slice A2 N.tb.length c2, .slice A3 N.bu.length c3, .slice A4 N.ow.length c4, .slice A5 N.tu.length c5, .slice A6 N.so.length c6, .slice A7 N.ar.length c7, .int .i64 N.ti])
    have GE := Lib.hid ge
    obtain ⟨t0, ht0⟩ : ∃ s, 10 * m = s := ⟨_, rfl⟩
    obtain ⟨t1, ht1⟩ : ∃ s, 2 * p = s := ⟨_, rfl⟩
    obtain ⟨t2, ht2⟩ : ∃ s, 10 * m + 2 * p = s := ⟨_, rfl⟩
    obtain ⟨j, hj⟩ : ∃ s, 10 * m + 2 * p + c = s := ⟨_, rfl⟩
    have HR := Lib.hid (show roomG N a q c = decide ((bufA N j).length < 3) by rw [hro, hch, hm, hp, ← hj]; rfl)
    have g1 : IntKind.i64.wrap (10 * (m : Int)) = (t0 : Int) := wrapN (by omega) (by omega)
    have g2 : IntKind.i64.wrap (2 * (p : Int)) = (t1 : Int) := wrapN (by omega) (by omega)
    have g3 : IntKind.i64.wrap ((t0 : Int) + (t1 : Int)) = (t2 : Int) := wrapN (by omega) (by omega)
    have g4 : IntKind.i64.wrap ((t2 : Int) + (c : Int)) = (j : Int) := wrapN (by omega) (by omega)
    rw [hj] at hjl
    have f0 : (0 : Int) ≤ (j : Int) := by omega
    have f1 : (j : Int) < (N.bu.length : Int) := by omega
    have HJL := Lib.hid hjl
    clear h hn hf hro hch hch' ge hs0 hs1 hm hp hj ht0 ht1 ht2 hjl
    go_enter Try.func39, Try.ntmps39
    go_wp2_with fail
    refine (HHC.out _ HIN.out.br).mono ?_
    rintro e w1 ⟨rfl, hg1⟩
    have b0 : w1.cell? ⟨w.heap.size, 0, none⟩ = some (.int .i64 N.W) := (KB.out.grown hg1 (by simp)).cell 0
    have b1 : w1.cell? ⟨w.heap.size, 1, none⟩ = some (.int .i64 N.H) := (KB.out.grown hg1 (by simp)).cell 1
    have G1 := Lib.hid hg1
    clear hg1
    go_wp2_with fail
    refine (HNX.out _).mono ?_
    rintro e w2 ⟨rfl, hg2⟩
    have G2 := Lib.hid (gb_trans G1.out hg2)
    obtain ⟨sb, so, A', c', hA, hsb, hcell, _, _⟩ := buf_at ((HIN.out.none (Nat.le_refl _) G2.out).more G2.out.size) j HJL.out
    dsimp only at hA
    have a5 : w2.cell? ⟨w.heap.size, 5, none⟩ = some (.slice A3 N.bu.length c3) := (KB.out.grown G2.out (by simp)).cell 5
    rw [hA] at a5
    obtain ⟨z, hz⟩ : ∃ z, (bufA N j).length = z := ⟨_, rfl⟩
    rw [hz] at hcell
    have HZ := Lib.hid hz
    clear hg2 b0 b1 hA hz
    go_wp2_with fail
    go_region_held3 (fun w' => w'.cell? ⟨w.heap.size, 5, none⟩ = some (.slice (some ⟨sb, so, none⟩) N.bu.length c3) ∧ w'.cell? ⟨sb, so + j, none⟩ = some (.slice A' z c'))
      (exact ⟨a5, hcell⟩)
      (first
        | (go_at_call 66; refine (HOP.out _).mono ?_; rintro e w3 ⟨rfl, rfl⟩)
        | fail)
    all_goals
      go_wp2_with fail
      go_ret
      refine ⟨?_, gb_drew (gb_trans GE.out G2.out)⟩
      rw [HR.out, HZ.out]
      by_cases hz3 : z < 3
      · have : (z : Int) < 3 := by omega
        simp [hz3, this, go_sem]
      · have : ¬ (z : Int) < 3 := by omega
        simp [hz3, this, go_sem]
end Go.Proofs.Ytplpdjpldadcmaa
end

section
namespace Go.Proofs.Ytplpdjpldadcmaa
open Go.ChangeShapes Go.WideShapes Go.ChangeAt Go.RowKit
set_option linter.unusedVariables false
set_option maxRecDepth 20000

set_option maxHeartbeats 3200000 in
theorem specRequest (y : Na) (N : Nt) (k a i q : Nat) (w : World) (h : NetIn w w.heap.size y N) (hn : NetSm N) (hf : Fit N k) (ha : a < k) (hi : i < 10) (hq : q ≤ 4) :
    Calls Try.prog 45 #[.agg #[.int .i64 N.W, .int .i64 N.H, .slice y.br.A N.br.length y.br.c, .slice y.ta.A N.ta.length y.ta.c, .slice y.tb.A N.tb.length y.tb.c, .slice y.bu.A N.bu.length y.bu.c, .slice y.ow.A N.ow.length y.ow.c, .slice y.tu.A N.tu.length y.tu.c, .slice y.so.A N.so.length y.so.c, .slice y.ar.A N.ar.length y.ar.c, .int .i64 N.ti], .int .i64 (a : Int), .int .i64 (i : Int), .int .i64 (q : Int)] w (RetB (reqG N a i q) w) := by
  have hk16 := hf.k16
  have ge := gb_alloc (gb_refl w none) (.cells #[.int .i64 N.W, .int .i64 N.H, .slice y.br.A N.br.length y.br.c, .slice y.ta.A N.ta.length y.ta.c, .slice y.tb.A N.tb.length y.tb.c, .slice y.bu.A N.bu.length y.bu.c, .slice y.ow.A N.ow.length y.ow.c, .slice y.tu.A N.tu.length y.tu.c, .slice y.so.A N.so.length y.so.c, .slice y.ar.A N.ar.length y.ar.c, .int .i64 N.ti] 44)
  have HIN := Lib.hid ((h.none (Nat.le_refl _) ge).more ge.size)
  have KB := Lib.hid (Blk.new w 44 #[.int .i64 N.W, .int .i64 N.H, .slice y.br.A N.br.length y.br.c, .slice y.ta.A N.ta.length y.ta.c, .slice y.tb.A N.tb.length y.tb.c, .slice y.bu.A N.bu.length y.bu.c, .slice y.ow.A N.ow.length y.ow.c, .slice y.tu.A N.tu.length y.tu.c, .slice y.so.A N.so.length y.so.c, .slice y.ar.A N.ar.length y.ar.c, .int .i64 N.ti])
  have GE := Lib.hid ge
  have e3 := mod2 i
  have hjl : 10 * a + i < N.bu.length := by rw [hf.bu]; omega
  have hol : 10 * a + 2 * q + i % 2 < N.ow.length := by rw [hf.ow]; omega
  have HWA := Lib.hid (fun w' hh => specWanted y N k a i w' hh hf ha hi)
  have HRO := Lib.hid (fun w' hh => specRoom y N k a q (i % 2) w' hh hn hf ha hq (by omega))
  obtain ⟨v, hv⟩ : ∃ v, wantG N a i = v := ⟨_, rfl⟩
  have HV := Lib.hid hv
  rw [hv] at HWA
  obtain ⟨i2, hi2⟩ : ∃ q, i % 2 = q := ⟨_, rfl⟩
  rw [hi2] at e3 HRO
  have HI2 := Lib.hid hi2
  have HJL := Lib.hid hjl
  have HOL := Lib.hid hol
  clear h hn hf ge
  by_cases hw : v = (q : Int)
  rotate_left
  · have HR := Lib.hid (show reqG N a i q = false by rw [reqG, hv, decide_eq_false hw]; rfl)
    clear hv hi2 hjl hol
    go_enter Try.func45, Try.ntmps45
    go_wp2_with fail
    refine (HWA.out _ HIN.out).mono ?_
    rintro e w1 ⟨rfl, hg1⟩
    go_wp2_with fail
    go_ret
    exact ⟨by rw [HR.out]; rfl, gb_trans GE.out hg1⟩
  obtain ⟨r, hr⟩ : ∃ r, roomG N a q i2 = r := ⟨_, rfl⟩
  rw [hr] at HRO
  have hrq : reqG N a i q = (r && ownR N a i q) := by rw [reqG, hv, decide_eq_true hw, hi2, hr]; rfl
  have HRQ := Lib.hid hrq
  have hnil : bufA N (10 * a + i) ≠ [] := fun e => by
    rw [wantG, e] at hv
    simp only [wantL] at hv
    omega
  have HNI := Lib.hid hnil
  have HW := Lib.hid hw
  clear hv hi2 hjl hol hr hrq hnil
  go_enter Try.func45, Try.ntmps45
  go_wp2_with fail
  refine (HWA.out _ HIN.out).mono ?_
  rintro e w1 ⟨rfl, hg1⟩
  have HIN1 := Lib.hid ((HIN.out.none (Nat.le_refl _) hg1).more hg1.size)
  have K1 := Lib.hid (KB.out.grown hg1 (by simp))
  have G1 := Lib.hid hg1
  have b0 : w1.cell? ⟨w.heap.size, 0, none⟩ = some (.int .i64 N.W) := K1.out.cell 0
  have b1 : w1.cell? ⟨w.heap.size, 1, none⟩ = some (.int .i64 N.H) := K1.out.cell 1
  have b2 : w1.cell? ⟨w.heap.size, 2, none⟩ = some (.slice y.br.A N.br.length y.br.c) := K1.out.cell 2
  have b3 : w1.cell? ⟨w.heap.size, 3, none⟩ = some (.slice y.ta.A N.ta.length y.ta.c) := K1.out.cell 3
  have b4 : w1.cell? ⟨w.heap.size, 4, none⟩ = some (.slice y.tb.A N.tb.length y.tb.c) := K1.out.cell 4
  have b5 : w1.cell? ⟨w.heap.size, 5, none⟩ = some (.slice y.bu.A N.bu.length y.bu.c) := K1.out.cell 5
  have b6 : w1.cell? ⟨w.heap.size, 6, none⟩ = some (.slice y.ow.A N.ow.length y.ow.c) := K1.out.cell 6
  have b7 : w1.cell? ⟨w.heap.size, 7, none⟩ = some (.slice y.tu.A N.tu.length y.tu.c) := K1.out.cell 7
  have b8 : w1.cell? ⟨w.heap.size, 8, none⟩ = some (.slice y.so.A N.so.length y.so.c) := K1.out.cell 8
  have b9 : w1.cell? ⟨w.heap.size, 9, none⟩ = some (.slice y.ar.A N.ar.length y.ar.c) := K1.out.cell 9
  have b10 : w1.cell? ⟨w.heap.size, 10, none⟩ = some (.int .i64 N.ti) := K1.out.cell 10
  clear hg1
  go_wp2_with fail
  refine (HRO.out _ HIN1.out).mono ?_
  rintro e w2 ⟨rfl, hg2⟩
  have G2 := Lib.hid (gb_trans G1.out hg2)
  have K2 := Lib.hid (K1.out.grown hg2 (by simp))
  have HIN2 := Lib.hid ((HIN1.out.none (Nat.le_refl _) hg2).more hg2.size)
  clear hg2 b0 b1 b2 b3 b4 b5 b6 b7 b8 b9 b10
  cases r with
  | false =>
    go_wp2_with fail
    go_ret
    exact ⟨by rw [HRQ.out]; rfl, gb_trans GE.out G2.out⟩
  | true =>
    obtain ⟨sb, so, A', c', hA, _, hcell, hrd, hDj⟩ := buf_at HIN2.out (10 * a + i) HJL.out
    obtain ⟨ob, oo, hOA, _, hoc⟩ := HIN2.out.ow.at (10 * a + 2 * q + i % 2) HOL.out
    rw [getD_in (d := 0) (e := -2) HOL.out] at hoc
    have a5 : w2.cell? ⟨w.heap.size, 5, none⟩ = some (.slice y.bu.A N.bu.length y.bu.c) := K2.out.cell 5
    have a6 : w2.cell? ⟨w.heap.size, 6, none⟩ = some (.slice y.ow.A N.ow.length y.ow.c) := K2.out.cell 6
    rw [hA] at a5
    rw [hOA] at a6
    have hor := show ownR N a i q = decide (N.ow.getD (10 * a + 2 * q + i % 2) (-2) = if headL (bufA N (10 * a + i)) = true then -1 else ((i / 2 : Nat) : Int)) from rfl
    have hjl := HJL.out
    have hol := HOL.out
    obtain ⟨D, hD⟩ : ∃ D, bufA N (10 * a + i) = D := ⟨_, rfl⟩
    have hnil := HNI.out
    rw [hD] at hcell hrd hor hnil
    obtain ⟨z, hz⟩ : ∃ z, N.ow.getD (10 * a + 2 * q + i % 2) (-2) = z := ⟨_, rfl⟩
    rw [hz] at hoc hor
    rw [HI2.out] at hoc hol
    obtain ⟨s0, hs0⟩ : ∃ s, 10 * a = s := ⟨_, rfl⟩
    obtain ⟨s1, hs1⟩ : ∃ s, 2 * q = s := ⟨_, rfl⟩
    obtain ⟨s2, hs2⟩ : ∃ s, 10 * a + 2 * q = s := ⟨_, rfl⟩
    obtain ⟨s3, hs3⟩ : ∃ s, 10 * a + 2 * q + i2 = s := ⟨_, rfl⟩
    obtain ⟨s4, hs4⟩ : ∃ s, 10 * a + i = s := ⟨_, rfl⟩
    obtain ⟨d2, hd2⟩ : ∃ s, i / 2 = s := ⟨_, rfl⟩
    have hi2' : i2 ≤ 1 := by have := HI2.out; omega
    have e1 : IntKind.i64.wrap (10 * (a : Int)) = (s0 : Int) := wrapN (by omega) (by omega)
    have e2 : IntKind.i64.wrap (2 * (q : Int)) = (s1 : Int) := wrapN (by omega) (by omega)
    have e5 : IntKind.i64.wrap ((s0 : Int) + (s1 : Int)) = (s2 : Int) := wrapN (by omega) (by omega)
    have e6 : IntKind.i64.wrap ((s2 : Int) + (i2 : Int)) = (s3 : Int) := wrapN (by omega) (by omega)
    have e7 : IntKind.i64.wrap ((s0 : Int) + (i : Int)) = (s4 : Int) := wrapN (by omega) (by omega)
    have e4 := div2 i
    rw [hd2] at e4 hor
    rw [hs3] at hoc hol
    rw [hs4] at hcell hjl
    have f0 : (0 : Int) ≤ (s3 : Int) := by omega
    have f1 : (s3 : Int) < (N.ow.length : Int) := by omega
    have f2 : (0 : Int) ≤ (s4 : Int) := by omega
    have f3 : (s4 : Int) < (N.bu.length : Int) := by omega
    have HD2 : Hid (wrap64 (d2 : Int) = (d2 : Int)) := Lib.hid (IntWalk.wrap64_in _ (by omega))
    cases D with
    | nil => exact absurd rfl hnil
    | cons x tl =>
      obtain ⟨xb, xo, x', rfl, _, hx', hxc⟩ := hrd.at 0 (by simp)
      obtain rfl : x = x' := by simpa using hx'
      obtain ⟨x0, x1, x2, x3, x4⟩ := flt_five hxc
      simp only [Nat.zero_mul, Nat.add_zero] at x0 x1 x2 x3 x4
      obtain ⟨m, hm⟩ : ∃ m, (x :: tl).length = m := ⟨_, rfl⟩
      have hm0 : 0 < m := by rw [← hm]; simp
      have hm2 : (0 : Int) < (m : Int) := by omega
      rw [hm] at hcell
      obtain ⟨hd, hhd⟩ : ∃ b, x.hd = b := ⟨_, rfl⟩
      rw [hhd] at x3
      have hhl : headL (x :: tl) = hd := hhd
      rw [hhl] at hor
      have HOR := Lib.hid hor
      clear hor hnil hD hz hs0 hs1 hs2 hs3 hs4 hd2 hi2' hjl hol hrd hDj hx' hxc hm hhd hhl x0 x1 x2 x4 hA hOA
      cases hd with
      | true =>
        have HO : Hid (ownR N a i q = (z == -1)) := Lib.hid (by rw [HOR.out, if_pos rfl]; by_cases h : z = -1 <;> simp [h])
        go_wp2_with fail
        go_ret
        exact ⟨by rw [HRQ.out, HO.out]; rfl, gb_trans GE.out G2.out⟩
      | false =>
        have HO : Hid (ownR N a i q = (z == (d2 : Int))) := Lib.hid (by rw [HOR.out, if_neg (by decide)]; by_cases h : z = (d2 : Int) <;> simp [h])
        obtain ⟨t, ht⟩ : ∃ t, (z == (d2 : Int)) = t := ⟨_, rfl⟩
        have e8 : (z == wrap64 (d2 : Int)) = t := by rw [HD2.out]; exact ht
        rw [ht] at HO
        clear ht
        go_wp2_with fail
        go_ret
        exact ⟨by rw [HRQ.out, HO.out]; rfl, gb_trans GE.out G2.out⟩
end Go.Proofs.Ytplpdjpldadcmaa
end

section
namespace Go.Proofs.Ytplpdjpldadcmaa
open Go.ChangeShapes Go.WideShapes Go.ChangeAt Go.RowKit
set_option linter.unusedVariables false

def clB (W H : Int) (A AP AQ : Option Addr) (n cap nP cP nQ cQ : Nat) (w : World) : World := (w.alloc (.cells (meshC W H A n cap) 38)).alloc (.cells #[.slice AP nP cP, .slice AQ nQ cQ] 41)
/-- The boxes as they are. -/
structure ClAt (W H : Int) (A AP AQ : Option Addr) (n cap nP cP nQ cQ : Nat) (w wr : World) : Prop where
  m : Blk wr w.heap.size 38 (meshC W H A n cap)
  t : Blk wr (w.heap.size + 1) 41 #[.slice AP nP cP, .slice AQ nQ cQ]
  g : w.grownBy wr none
section
variable {W H : Int} {A AP AQ : Option Addr} {n cap nP cP nQ cQ : Nat} {w wr w' : World}
theorem clAt_start : ClAt W H A AP AQ n cap nP cP nQ cQ w (clB W H A AP AQ n cap nP cP nQ cQ w) := by
  have ht := Blk.new (w.alloc (.cells (meshC W H A n cap) 38)) 41 #[.slice AP nP cP, .slice AQ nQ cQ]
  rw [alloc_size] at ht
  exact ⟨(Blk.new w 38 _).alloc _, ht, gb_alloc (gb_alloc (gb_refl w none) _) _⟩
theorem ClAt.gb (h : ClAt W H A AP AQ n cap nP cP nQ cQ w wr) (hg : wr.grownBy w' none) : ClAt W H A AP AQ n cap nP cP nQ cQ w w' := ⟨h.m.grown hg (by simp), h.t.grown hg (by simp), gb_trans h.g hg⟩
theorem ClAt.bl (h : ClAt W H A AP AQ n cap nP cP nQ cQ w wr) (hb : Below wr.heap.size wr w') : ClAt W H A AP AQ n cap nP cP nQ cQ w w' := h.gb (gb_of_below hb none)
theorem ClAt.at (h : ClAt W H A AP AQ n cap nP cP nQ cQ w wr) {B : Option Addr} {k : Nat} {M : List Int} (hi : IntAt w w.heap.size B k M) : IntAt wr wr.heap.size B k M := (hi.none (Nat.le_refl _) h.g).more h.g.size
theorem ClAt.sz (h : ClAt W H A AP AQ n cap nP cP nQ cQ w wr) : w.heap.size + 2 ≤ wr.heap.size := by have := h.t.lt; omega
end
end Go.Proofs.Ytplpdjpldadcmaa
end

section
namespace Go.Proofs.Ytplpdjpldadcmaa
open Go.ChangeShapes Go.WideShapes Go.ChangeAt Go.RowKit
set_option linter.unusedVariables false

theorem box2 {w w1 : World} {T U : TypeId} {cs ds : Array Value} (h : ((w.alloc (.cells cs T)).alloc (.cells ds U)).grownBy w1 none) :
    Blk w1 w.heap.size T cs ∧ Blk w1 (w.heap.size + 1) U ds ∧ w.grownBy w1 none := by
  refine ⟨((Blk.new w T cs).alloc _).grown h (by simp), ?_, gb_trans (gb_alloc (gb_alloc (gb_refl _ _) _) _) h⟩
  have := (Blk.new (w.alloc (.cells cs T)) U ds).grown h (by simp)
  rwa [alloc_size] at this
theorem sq_bounds {k : Int} (h0 : 0 ≤ k) (h1 : k ≤ 16) : 0 ≤ k * k ∧ k * k ≤ 256 := by
  have e : k = (k.toNat : Int) := (Int.toNat_of_nonneg h0).symm
  have h2 : k.toNat ≤ 16 := by omega
  have h3 : k.toNat * k.toNat ≤ 16 * 16 := Nat.mul_le_mul h2 h2
  rw [e, ← Int.natCast_mul]
  omega
end Go.Proofs.Ytplpdjpldadcmaa
end

section
namespace Go.Proofs.Ytplpdjpldadcmaa
open Go.ChangeShapes Go.WideShapes Go.ChangeAt Go.RowKit
set_option linter.unusedVariables false

theorem specSized (W H : Int) (A A2 : Option Addr) (n cap n2 c2 : Nat) (L P : List Int) (b : Bool) (hb : sizedG W H L P = b) (w : World) (h : IntAt w w.heap.size A n L) (hn : n ≤ 1000000000) (hp : P.length = n2) (hn2 : n2 ≤ 1000000000) :
    Calls Try.prog 101 #[.agg #[.int .i64 W, .int .i64 H, .slice A n cap], .agg #[.slice A2 n2 c2]] w (RetB b w) := by
  have HI := Lib.hid h
  clear h
  obtain ⟨k, hk⟩ : ∃ k, countG W H = k := ⟨_, rfl⟩
  obtain ⟨hk0, hk1⟩ := countG_le W H
  rw [hk] at hk0 hk1
  obtain ⟨m0, m1⟩ := sq_bounds hk0 hk1
  have hsz : sizedG W H L P = (meshG W H L && decide ((n2 : Int) = k * k)) := by rw [sizedG, hk, hp]
  have hw : wrap64 (k * k) = k * k := IntWalk.wrap64_in _ (by omega)
  have HN := Lib.hid (fun w => specNodeCountV W H k hk w)
  rw [hb] at hsz
  clear hk hk0 hk1 m0 m1 hp hb
  cases hm : meshG W H L with
  | false =>
    have HM := Lib.hid (fun w h => specMeshOkV W H A n cap L false hm w h hn)
    have hf : b = false := by rw [hsz, hm]; rfl
    have HF := Lib.hid hf
    clear hm hf hsz hw
    go_enter Try.func101, Try.ntmps101
    go_wp2_with fail
    refine (HN.out _).mono ?_
    rintro e w1 ⟨rfl, hg⟩
    obtain ⟨k1, k2, g1⟩ := box2 hg
    have a0 : w1.cell? ⟨w.heap.size, 0, none⟩ = some (.int .i64 W) := k1.cell 0
    have a1 : w1.cell? ⟨w.heap.size, 1, none⟩ = some (.int .i64 H) := k1.cell 1
    have a2 : w1.cell? ⟨w.heap.size, 2, none⟩ = some (.slice A n cap) := k1.cell 2
    have hi := (HI.out.none (Nat.le_refl _) g1).more (B' := w1.heap.size) g1.size
    have G1 := Lib.hid g1
    clear hg k1 k2 g1
    go_wp2_with fail
    refine (HM.out _ hi).mono ?_
    rintro e w2 ⟨rfl, hg2⟩
    have G2 := Lib.hid (gb_trans G1.out hg2)
    clear hg2 hi
    go_wp2_with fail
    go_ret
    exact ⟨ret_bool HF.out.symm, G2.out⟩
  | true =>
    have HM := Lib.hid (fun w h => specMeshOkV W H A n cap L true hm w h hn)
    have hf : b = decide ((n2 : Int) = k * k) := by rw [hsz, hm]; rfl
    have HF := Lib.hid hf
    have HW := Lib.hid hw
    clear hm hf hsz hw
    go_enter Try.func101, Try.ntmps101
    go_wp2_with fail
    refine (HN.out _).mono ?_
    rintro e w1 ⟨rfl, hg⟩
    obtain ⟨k1, k2, g1⟩ := box2 hg
    have a0 : w1.cell? ⟨w.heap.size, 0, none⟩ = some (.int .i64 W) := k1.cell 0
    have a1 : w1.cell? ⟨w.heap.size, 1, none⟩ = some (.int .i64 H) := k1.cell 1
    have a2 : w1.cell? ⟨w.heap.size, 2, none⟩ = some (.slice A n cap) := k1.cell 2
    have hi := (HI.out.none (Nat.le_refl _) g1).more (B' := w1.heap.size) g1.size
    have G1 := Lib.hid g1
    have K2 := Lib.hid k2
    clear hg k1 k2 g1
    go_wp2_with fail
    refine (HM.out _ hi).mono ?_
    rintro e w2 ⟨rfl, hg2⟩
    have b0 : w2.cell? ⟨w.heap.size + 1, 0, none⟩ = some (.slice A2 n2 c2) := (K2.out.grown hg2 (by simp)).cell 0
    have G2 := Lib.hid (gb_trans G1.out hg2)
    clear hg2 hi a0 a1 a2
    go_wp2_with fail
    go_ret
    exact ⟨ret_bool (by rw [HF.out]; simp only [HW.out]; rfl), G2.out⟩
end Go.Proofs.Ytplpdjpldadcmaa
end

section
namespace Go.Proofs.Ytplpdjpldadcmaa
open Go.ChangeShapes Go.WideShapes Go.ChangeAt Go.RowKit
set_option linter.unusedVariables false
set_option maxRecDepth 20000

/-- A mesh and a table as blocks. -/
def twoB (W H : Int) (A A2 : Option Addr) (n cap n2 c2 : Nat) (w : World) : World := (w.alloc (.cells (meshC W H A n cap) 38)).alloc (.cells #[.slice A2 n2 c2] 39)
section
variable {W H : Int} {A A2 : Option Addr} {n cap n2 c2 : Nat} {w wr : World}
theorem twoB_size : (twoB W H A A2 n cap n2 c2 w).heap.size = w.heap.size + 2 := by unfold twoB; rw [alloc_size, alloc_size]
theorem twoB_below : Below w.heap.size w (twoB W H A A2 n cap n2 c2 w) := ((Below.refl _ _).alloc (Nat.le_refl _) _).alloc (by rw [alloc_size]; omega) _
theorem twoB_mesh (h : Below (w.heap.size + 2) (twoB W H A A2 n cap n2 c2 w) wr) : Blk wr w.heap.size 38 (meshC W H A n cap) :=
  ((Blk.new w 38 (meshC W H A n cap)).alloc _).below h (by omega)
theorem twoB_table (h : Below (w.heap.size + 2) (twoB W H A A2 n cap n2 c2 w) wr) : Blk wr (w.heap.size + 1) 39 #[.slice A2 n2 c2] := by
  have := Blk.new (w.alloc (.cells (meshC W H A n cap) 38)) 39 #[.slice A2 n2 c2]
  rw [alloc_size] at this
  exact this.below h (by omega)
theorem twoB_old (h : Below (w.heap.size + 2) (twoB W H A A2 n cap n2 c2 w) wr) : Below w.heap.size w wr :=
  twoB_below.trans (h.mono (by omega))
theorem twoB_le (h : Below (w.heap.size + 2) (twoB W H A A2 n cap n2 c2 w) wr) : w.heap.size + 2 ≤ wr.heap.size := by have := h.size; rw [twoB_size] at this; exact this
end
theorem new_nil {w wr : World} (h : Below w.heap.size w wr) : (wr.alloc (.cells #[] 3)).ownsRow w.heap.size 3 1 (.slice (some ⟨wr.heap.size, 0, none⟩) 0 0) 0 [] ∧ Below w.heap.size w (wr.alloc (.cells #[] 3)) :=
  ⟨World.ownsRow_made (base := w.heap.size) (e := 3) (size := 1) wr #[] 0 h.size (by decide) rfl, h.alloc h.size _⟩

def lenV : Value → Nat | .slice _ n _ => n | _ => 0
def WalkAt (W H : Int) (A A2 : Option Addr) (n cap n2 c2 : Nat) (w : World) (acc : List Int) (v : Value) (wr : World) : Prop :=
  wr.ownsRow (w.heap.size + 2) 3 1 v acc.length (intsV acc) ∧ Below (w.heap.size + 2) (twoB W H A A2 n cap n2 c2 w) wr

theorem WalkAt.app {W H : Int} {A A2 : Option Addr} {n cap n2 c2 : Nat} {w w3 w4 : World} {acc : List Int} {x : Int} {v v' : Value} {o : Obj} (hb : Below (w.heap.size + 2) (twoB W H A A2 n cap n2 c2 w) w3) (ho : w3.ownsRow (w.heap.size + 2) 3 1 v acc.length (intsV acc))
    (hown4 : w4.ownsRow (w.heap.size + 2) 3 1 v' (acc.length + 1) (intsV acc ++ [.int .i64 x])) (hg : (w3.alloc o).grownBy w4 v.ownBlock) :
    WalkAt W H A A2 n cap n2 c2 w (acc ++ [x]) v' w4 ∧ lenV v' = acc.length + 1 ∧ w4.cell? ⟨w.heap.size, 0, none⟩ = some (.int .i64 W) ∧ w4.cell? ⟨w.heap.size, 1, none⟩ = some (.int .i64 H) := by
  have hX : WalkAt W H A A2 n cap n2 c2 w (acc ++ [x]) v' w4 :=
    ⟨by rw [List.length_append, intsV_append]; exact hown4, (hb.alloc (twoB_le hb) _).grown hg (by have := twoB_le hb; simp; omega) (fun j hj => (ho.lt j hj).1)⟩
  refine ⟨hX, ?_, (twoB_mesh hX.2).cell 0, (twoB_mesh hX.2).cell 1⟩
  obtain ⟨A', c', rfl, _⟩ := own_form hX.1
  simp [lenV]

set_option maxHeartbeats 1600000 in
theorem specWalk (W H : Int) (A A2 : Option Addr) (n cap n2 c2 : Nat) (L P : List Int) (a z : Int) (w : World) (h : IntAt w w.heap.size A n L) (h2 : IntAt w w.heap.size A2 n2 P) (hn : n ≤ 1000000000) (hn2 : n2 ≤ 1000000000)
    (hs : sizedG W H L P = true) (ha : hasG W H a = true) (hz : hasG W H z = true) :
    Calls Try.prog 102 #[.agg #[.int .i64 W, .int .i64 H, .slice A n cap], .agg #[.slice A2 n2 c2], .int .i64 a, .int .i64 z] w (NewI (walkOf W H L P a z) w) := by
  obtain ⟨i0, hi, hz0, hz1, hz2⟩ := info_parts info_int
  have hp := h2.1
  have HI := Lib.hid h
  have HP := Lib.hid h2
  clear h h2
  obtain ⟨k, hk⟩ : ∃ k, countG W H = k := ⟨_, rfl⟩
  obtain ⟨hk0, hk1⟩ := countG_le W H
  rw [hk] at hk0 hk1
  have hsq := (sizedG_mesh hs).2
  rw [hp, hk] at hsq
  have HSQ := Lib.hid hsq
  have HN := Lib.hid (fun w => specNodeCountV W H k hk w)
  have HK := Lib.hid hk
  have hzz := hasG_iff.1 hz
  rw [hk] at hzz
  have HZ := Lib.hid hzz
  have HA := Lib.hid ha
  have HRS := Lib.hid (show walkOf W H L P a z = restG W H L P z [] (k.toNat + 1) a by rw [← hk]; exact (rest_start a z).symm)
  obtain ⟨res, hres⟩ : ∃ res, walkOf W H L P a z = res := ⟨_, rfl⟩
  rw [hres] at HRS ⊢
  have hown0 : ((twoB W H A A2 n cap n2 c2 w).alloc (.cells #[] 3)).ownsRow (w.heap.size + 2) 3 1 (.slice (some ⟨w.heap.size + 2, 0, none⟩) 0 0) 0 [] := by
    have := World.ownsRow_made (base := w.heap.size + 2) (e := 3) (size := 1) (twoB W H A A2 n cap n2 c2 w) #[] 0 (by rw [twoB_size]; exact Nat.le_refl _) (by decide) rfl
    rwa [twoB_size] at this
  have HO0 := Lib.hid hown0
  have HB0 := Lib.hid (show Below (w.heap.size + 2) (twoB W H A A2 n cap n2 c2 w) ((twoB W H A A2 n cap n2 c2 w).alloc (.cells #[] 3)) from (Below.refl _ _).alloc (by rw [twoB_size]; exact Nat.le_refl _) _)
  clear hk hs ha hz hsq hzz hres hown0 hp
  go_enter Try.func102, Try.ntmps102
  go_wp2_with fail
  refine (HN.out _).mono ?_
  rintro e w1 ⟨rfl, hg⟩
  have HX := Lib.hid (show WalkAt W H A A2 n cap n2 c2 w [] (.slice (some ⟨w.heap.size + 2, 0, none⟩) 0 0) w1 from
    ⟨own_none HO0.out hg, below_gb HB0.out (by rw [twoB_size]; exact Nat.le_refl _) hg⟩)
  clear hg
  go_wp2_with fail
  go_loopw [9, 11] (fun v i wr => ∃ (acc : List Int) (x : Int), i = .int .i64 x ∧ (acc.length : Int) ≤ k + 1 ∧ hasG W H x = true ∧ res = restG W H L P z acc (k.toNat + 1 - acc.length) x ∧ WalkAt W H A A2 n cap n2 c2 w acc v wr) (fun v _ _ => 17 - lenV v)
  case atStart => exact ⟨[], a, rfl, by simp; omega, HA.out, HRS.out, HX.out⟩
  case round =>
    obtain ⟨acc, x, rfl, hl, hx, hre, hown, hbel⟩ := hrel
    obtain ⟨Aq, capq, rfl, hAq⟩ := own_form hown
    have HOwn := Lib.hid hown
    have HBel := Lib.hid hbel
    have hl17 : acc.length ≤ 17 := by omega
    have tb := twoB_table hbel
    have b0 : wr.cell? ⟨w.heap.size + 1, 0, none⟩ = some (.slice A2 n2 c2) := tb.cell 0
    have hsw := twoB_le hbel
    have hbo := twoB_old hbel
    have HX := Lib.hid hx
    have HRE := Lib.hid hre
    have HAQ := Lib.hid hAq
    obtain ⟨x0, x1⟩ := hasG_iff.1 hx
    rw [HK.out] at x1
    clear hown hbel tb hx hre hAq
    by_cases hlt : (acc.length : Int) ≤ k
    · obtain ⟨t0, t1⟩ := tab_at HSQ.out x0 x1 HZ.out.1 HZ.out.2
      obtain ⟨j, hj⟩ : ∃ j : Nat, x * k + z = (j : Int) := ⟨(x * k + z).toNat, (Int.toNat_of_nonneg t0).symm⟩
      have hjn : j < n2 := by omega
      have hak := Int.mul_nonneg x0 hk0
      have hz0 := HZ.out.1
      have e1 : wrap64 (x * k) = x * k := IntWalk.wrap64_in _ (by omega)
      have e2 : wrap64 (x * k + z) = (j : Int) := by rw [hj]; exact IntWalk.wrap64_in _ (by omega)
      obtain ⟨b, off, rfl, hbB, hcell⟩ := (HP.out.below hbo).at j hjn
      obtain ⟨p, hpp⟩ : ∃ p, P.getD j 0 = p := ⟨_, rfl⟩
      rw [hpp] at hcell
      have htab : tabG (countG W H) P x z = p := by unfold tabG; rw [HK.out, hj, Int.toNat_natCast]; exact hpp
      obtain ⟨f, hf⟩ : ∃ f, k.toNat + 1 - acc.length = f + 1 := ⟨k.toNat - acc.length, by omega⟩
      have hre := HRE.out
      rw [hf] at hre
      have HF := Lib.hid hf
      have HT := Lib.hid htab
      have HRE2 := Lib.hid hre
      have HHJ := Lib.hid hj
      have x16 : x ≤ 15 := by omega
      have HBO := Lib.hid hbo
      have j0 : (0 : Int) ≤ (j : Int) := by omega
      have j1 : (j : Int) < (n2 : Int) := by omega
      clear hj hpp htab hf hre t0 t1 hak hz0 hbo
      by_cases h4 : p = 4
      · subst h4
        by_cases hxz : x = z
        · have hxb : (x != z) = false := by simpa using hxz
          have HF2 := Lib.hid (HRE2.out.trans (rest_end HT.out hxz))
          clear hxz
          go_wp2_with fail
          go_ret
          refine ⟨_, rfl, ?_, HBO.out⟩
          rw [HF2.out]
          exact own_less HOwn.out (by omega)
        · have hxb : (x != z) = true := by simpa using hxz
          have HF2 := Lib.hid (HRE2.out.trans (rest_lost HT.out hxz))
          clear hxz
          go_wp2_with fail
          go_ret
          obtain ⟨o, b⟩ := new_nil HBO.out
          refine ⟨_, rfl, ?_, b⟩
          rw [HF2.out]
          exact o
      · have h4b : (p == 4) = false := by simpa using h4
        have H4 := Lib.hid h4
        clear h4
        by_cases h03 : 0 ≤ p ∧ p ≤ 3
        · have HIN := Lib.hid (fun w => specInV p 0 3 true (decide_eq_true h03) w)
          obtain ⟨p0, p3⟩ := h03
          have hi2 := (HI.out.below HBO.out).more (B' := wr.heap.size) (by omega)
          have tm := twoB_mesh HBel.out
          have a0 : wr.cell? ⟨w.heap.size, 0, none⟩ = some (.int .i64 W) := tm.cell 0
          have a1 : wr.cell? ⟨w.heap.size, 1, none⟩ = some (.int .i64 H) := tm.cell 1
          have a2 : wr.cell? ⟨w.heap.size, 2, none⟩ = some (.slice A n cap) := tm.cell 2
          have TM := Lib.hid tm
          clear tm
          cases hc : hasChG W H L (4 * x + p) with
          | false =>
            have HC := Lib.hid (fun w h => specHasChV W H A n cap L (4 * x + p) false hc w h hn)
            have HF2 := Lib.hid (HRE2.out.trans (rest_bad HT.out H4.out (by simp [stepsG, hc])))
            clear hc
            go_wp2_with fail
            refine (HIN.out _).mono ?_
            rintro e w2 ⟨rfl, rfl⟩
            go_wp2_with fail
            refine (HC.out _ hi2).mono ?_
            rintro e w3 ⟨rfl, hg3⟩
            have G3 := Lib.hid (gb_below_none hg3 (Nat.le_trans HBO.out.size (Nat.le_refl _)))
            clear hg3 hi2
            go_wp2_with fail
            go_ret
            obtain ⟨o, b⟩ := new_nil (HBO.out.trans G3.out)
            refine ⟨_, rfl, ?_, b⟩
            rw [HF2.out]
            exact o
          | true =>
            have hst : stepsG W H L x p = true := by simp [stepsG, hc, p0, p3]
            have HC := Lib.hid (fun w h => specHasChV W H A n cap L (4 * x + p) true hc w h hn)
            have HF2 := Lib.hid (HRE2.out.trans (rest_go HT.out H4.out hst))
            have HNX := Lib.hid (step_has hst)
            obtain ⟨y, hy⟩ : ∃ y, nextG W H x p = y := ⟨_, rfl⟩
            rw [hy] at HF2 HNX
            have HNN := Lib.hid (fun w => specNextNodeV W H x p y hy w)
            clear hc hst hy
            go_wp2_with fail
            refine (HIN.out _).mono ?_
            rintro e w2 ⟨rfl, rfl⟩
            go_wp2_with fail
            refine (HC.out _ hi2).mono ?_
            rintro e w3 ⟨rfl, hg3⟩
            have G3 := Lib.hid hg3
            have hown1 := own_none HOwn.out hg3
            have hsz1 : w.heap.size + 2 ≤ w3.heap.size := Nat.le_trans hsw hg3.size
            have b3' := Lib.hid (show ∀ u ∈ [Value.int .i64 (4 * x + p)], u.oneCell' = true by simp [Value.oneCell'])
            have b4' := Lib.hid (show acc.length + 1 ≤ maxLen by unfold maxLen; omega)
            clear hg3 hi2 a0 a1 a2 b0
            go_wp2_with (at_builtin; refine wpList_append_own _ rfl _ _ 24 rfl (w.heap.size + 2) 3 i0 (.int .i64 0) 1 8 Try.underlying24 hi hz0 hz1 hz2 rfl (by decide) _ acc.length _ rfl (hown1.alloc _) ⟨w3.heap.size, 0, none⟩ 1 1 [.int .i64 (4 * x + p)] rfl rfl (World.news_of_block (cs := #[.int .i64 (4 * x + p)]) (t := 3) (fr := (0, 0)) (heap_alloc_new w3 _)) b3'.out b4'.out (by omega) (by simp; omega) ?_; intro v' w4 hown4 hgrow4 _; obtain ⟨xa, xl, a0, a1⟩ := WalkAt.app (below_gb HBel.out (by rw [twoB_size]; exact Nat.le_refl _) G3.out) hown1 hown4 hgrow4; have HXA := Lib.hid xa; have HLV := Lib.hid xl; clear xa xl hown4 hgrow4)
            refine (HNN.out _).mono ?_
            rintro e w5 ⟨rfl, hg5⟩
            have G5 := Lib.hid hg5
            clear hg5 a0 a1
            go_wp2_with fail
            go_roundw
            case rel => exact ⟨acc ++ [4 * x + p], y, rfl, by simp; omega, HNX.out, by rw [HF2.out]; congr 1; have := HF.out; simp; omega, own_none HXA.out.1 G5.out, below_gb HXA.out.2 (by rw [twoB_size]; exact Nat.le_refl _) G5.out⟩
            case measure => rw [HLV.out]; simp [lenV]; omega
        · have HIN := Lib.hid (fun w => specInV p 0 3 false (decide_eq_false h03) w)
          have HF2 := Lib.hid (HRE2.out.trans (rest_bad HT.out H4.out (by simp [stepsG]; intro u v; exact absurd ⟨u, v⟩ h03)))
          clear h03
          go_wp2_with fail
          refine (HIN.out _).mono ?_
          rintro e w2 ⟨rfl, rfl⟩
          go_wp2_with fail
          go_ret
          obtain ⟨o, b⟩ := new_nil HBO.out
          refine ⟨_, rfl, ?_, b⟩
          rw [HF2.out]
          exact o
    · have hf : k.toNat + 1 - acc.length = 0 := by omega
      have hre := HRE.out
      rw [hf, rest_zero] at hre
      have HF2 := Lib.hid hre
      have HBO := Lib.hid hbo
      clear hf hre hbo
      go_wp2_with fail
      go_ret
      obtain ⟨o, b⟩ := new_nil HBO.out
      refine ⟨_, rfl, ?_, b⟩
      rw [HF2.out]
      exact o
end Go.Proofs.Ytplpdjpldadcmaa
end

section
namespace Go.Proofs.Ytplpdjpldadcmaa
open Go.ChangeShapes Go.WideShapes Go.ChangeAt Go.RowKit
set_option linter.unusedVariables false
set_option maxRecDepth 20000

theorem IntAt.two {w : World} {A A2 B : Option Addr} {n cap n2 c2 m : Nat} {W H : Int} {L : List Int} (h : IntAt w w.heap.size B m L) : IntAt (twoB W H A A2 n cap n2 c2 w) (twoB W H A A2 n cap n2 c2 w).heap.size B m L :=
  (h.below twoB_below).more (by rw [twoB_size]; omega)
theorem IntAt.old {w wr : World} {A A2 B : Option Addr} {n cap n2 c2 m : Nat} {W H : Int} {L : List Int} (h : IntAt w w.heap.size B m L) (hb : Below (w.heap.size + 2) (twoB W H A A2 n cap n2 c2 w) wr) : IntAt wr wr.heap.size B m L :=
  (h.below (twoB_old hb)).more (by have := twoB_le hb; omega)
theorem NewI.old {w wr w' : World} {A A2 : Option Addr} {n cap n2 c2 : Nat} {W H : Int} {L : List Int} {v : Value} (hb : Below (w.heap.size + 2) (twoB W H A A2 n cap n2 c2 w) wr) (ho : w'.ownsRow wr.heap.size 3 1 v L.length (intsV L)) (hw : Below wr.heap.size wr w') : NewI L w (.returned v) w' :=
  ⟨v, rfl, own_less ho (by have := twoB_le hb; omega), (twoB_old hb).trans (hw.mono (by have := twoB_le hb; omega))⟩
theorem below_two {w w1 : World} {A A2 : Option Addr} {n cap n2 c2 : Nat} {W H : Int} (h : (twoB W H A A2 n cap n2 c2 w).grownBy w1 none) : Below (w.heap.size + 2) (twoB W H A A2 n cap n2 c2 w) w1 := gb_below_none h (by rw [twoB_size]; exact Nat.le_refl _)
theorem below_then {w wr w1 : World} {A A2 : Option Addr} {n cap n2 c2 : Nat} {W H : Int} (hb : Below (w.heap.size + 2) (twoB W H A A2 n cap n2 c2 w) wr) (h : wr.grownBy w1 none) : Below (w.heap.size + 2) (twoB W H A A2 n cap n2 c2 w) w1 := below_gb hb (by rw [twoB_size]; exact Nat.le_refl _) h
end Go.Proofs.Ytplpdjpldadcmaa
end

section
namespace Go.Proofs.Ytplpdjpldadcmaa
open Go.ChangeShapes Go.WideShapes Go.ChangeAt Go.RowKit
set_option linter.unusedVariables false
set_option maxRecDepth 20000

def TabAt (W H : Int) (A A2 : Option Addr) (n cap n2 c2 : Nat) (L P : List Int) (w : World) (a b : Nat) (wr : World) : Prop :=
  pairsTo W H L P a b ∧ Below (w.heap.size + 2) (twoB W H A A2 n cap n2 c2 w) wr
theorem specTableOk (W H : Int) (A A2 : Option Addr) (n cap n2 c2 : Nat) (L P : List Int) (w : World) (h : IntAt w w.heap.size A n L) (h2 : IntAt w w.heap.size A2 n2 P) (hn : n ≤ 1000000000) (hn2 : n2 ≤ 1000000000) :
    Calls Try.prog 94 #[.agg #[.int .i64 W, .int .i64 H, .slice A n cap], .agg #[.slice A2 n2 c2]] w (RetB (tableG W H L P) w) := by
  have hp := h2.1
  have HI := Lib.hid h
  have HP := Lib.hid h2
  have HT := Lib.hid (show IntAt (twoB W H A A2 n cap n2 c2 w) (twoB W H A A2 n cap n2 c2 w).heap.size A n L from h.two)
  clear h h2
  cases hs : sizedG W H L P with
  | false =>
    have HS := Lib.hid (fun w h => specSized W H A A2 n cap n2 c2 L P false hs w h hn hp hn2)
    have HF := Lib.hid (tableG_unsized hs)
    clear hs
    go_enter Try.func94, Try.ntmps94
    go_wp2_with fail
    refine (HS.out _ HT.out).mono ?_
    rintro e w1 ⟨rfl, hg⟩
    have G1 := Lib.hid (box2 hg).2.2
    clear hg
    go_wp2_with fail
    go_ret
    exact ⟨ret_bool HF.out.symm, G1.out⟩
  | true =>
    have HS := Lib.hid (fun w h => specSized W H A A2 n cap n2 c2 L P true hs w h hn hp hn2)
    obtain ⟨k, hk⟩ : ∃ k, countG W H = k := ⟨_, rfl⟩
    obtain ⟨hk0, hk1⟩ := countG_le W H
    rw [hk] at hk0 hk1
    have hsq := (sizedG_mesh hs).2
    rw [hp, hk] at hsq
    have HSQ := Lib.hid hsq
    have HN := Lib.hid (fun w => specNodeCountV W H k hk w)
    have HK := Lib.hid hk
    have HSZ := Lib.hid hs
    clear hk hs hsq hp
    go_enter Try.func94, Try.ntmps94
    go_wp2_with fail
    refine (HS.out _ HT.out).mono ?_
    rintro e w1 ⟨rfl, hg⟩
    have B1 := Lib.hid (below_two hg)
    clear hg
    have a0 : w1.cell? ⟨w.heap.size, 0, none⟩ = some (.int .i64 W) := (twoB_mesh B1.out).cell 0
    have a1 : w1.cell? ⟨w.heap.size, 1, none⟩ = some (.int .i64 H) := (twoB_mesh B1.out).cell 1
    go_wp2_with fail
    refine (HN.out _).mono ?_
    rintro e w2 ⟨rfl, hg⟩
    have X2 := Lib.hid (show TabAt W H A A2 n cap n2 c2 L P w 0 0 w2 from ⟨pairs_zero, below_then B1.out hg⟩)
    clear hg a0 a1
    go_wp2_with fail
    go_loopw [6] (fun i wr => ∃ x : Nat, i = .int .i64 (x : Int) ∧ (x : Int) ≤ k ∧ TabAt W H A A2 n cap n2 c2 L P w x 0 wr) (fun i _ => 17 - (intOf i).toNat)
    case atStart => exact ⟨0, rfl, by omega, X2.out⟩
    case round =>
      obtain ⟨x, rfl, hx, hpr, hbel⟩ := hrel
      have HX := Lib.hid (show TabAt W H A A2 n cap n2 c2 L P w x 0 wr from ⟨hpr, hbel⟩)
      have BX := Lib.hid hbel
      clear hpr hbel
      by_cases hlt : (x : Int) < k
      · go_wp2_with fail
        go_loopw [7] (fun i ws => ∃ y : Nat, i = .int .i64 (y : Int) ∧ (y : Int) ≤ k ∧ TabAt W H A A2 n cap n2 c2 L P w x y ws) (fun i _ => 17 - (intOf i).toNat)
        case atStart => exact ⟨0, rfl, by omega, HX.out⟩
        case round =>
          obtain ⟨y, rfl, hy, hpr, hbel⟩ := hrel
          have HPR := Lib.hid hpr
          have BY := Lib.hid hbel
          clear hpr hbel
          by_cases hly : (y : Int) < k
          · by_cases hxy : x = y
            · subst hxy
              obtain ⟨t0, t1⟩ := tab_at HSQ.out (Int.natCast_nonneg x) hlt (Int.natCast_nonneg x) hlt
              obtain ⟨j, hj⟩ : ∃ j : Nat, (x : Int) * k + x = (j : Int) := ⟨((x : Int) * k + x).toNat, (Int.toNat_of_nonneg t0).symm⟩
              have hjn : j < n2 := by omega
              have hak := Int.mul_nonneg (Int.natCast_nonneg x) hk0
              have e1 : wrap64 ((x : Int) * k) = (x : Int) * k := IntWalk.wrap64_in _ (by omega)
              have e2 : wrap64 ((x : Int) * k + x) = (j : Int) := by rw [hj]; exact IntWalk.wrap64_in _ (by omega)
              have hold := twoB_old BY.out
              obtain ⟨b, off, rfl, hbB, hcell⟩ := (HP.out.below hold).at j hjn
              obtain ⟨p, hpp⟩ : ∃ p, P.getD j 0 = p := ⟨_, rfl⟩
              rw [hpp] at hcell
              have htab : tabG (countG W H) P x x = p := by unfold tabG; rw [HK.out, hj, Int.toNat_natCast]; exact hpp
              have hen := entry_same (W := W) (H := H) (L := L) (P := P) (a := (x : Int))
              rw [htab] at hen
              have j0 : (0 : Int) ≤ (j : Int) := by omega
              have j1 : (j : Int) < (n2 : Int) := by omega
              have b0 : wr.cell? ⟨w.heap.size + 1, 0, none⟩ = some (.slice (some ⟨b, off, none⟩) n2 c2) := (twoB_table BY.out).cell 0
              by_cases h4 : p = 4
              · have hb4 : (p != 4) = false := by simpa using h4
                have HE := Lib.hid (pairs_next HPR.out (hen.trans (decide_eq_true h4)))
                clear hj hpp htab hen h4 t0 t1 hak hold
                go_wp2_with fail
                go_roundw
                case rel => exact ⟨x + 1, by go_num, by omega, HE.out, BY.out⟩
                case measure => simp [intOf]; omega
              · have hb4 : (p != 4) = true := by simpa using h4
                have HE := Lib.hid (tableG_no (W := W) (H := H) (L := L) (P := P) (a := x) (b := x) (by rw [HK.out]; exact hlt) (by rw [HK.out]; exact hlt) (hen.trans (decide_eq_false h4)))
                clear hj hpp htab hen h4 t0 t1 hak hold
                go_wp2_with fail
                go_ret
                exact ⟨ret_bool HE.out.symm, gb_of_below (twoB_old BY.out) none⟩
            · have hb1 : ((x : Int) == (y : Int)) = false := by simp; omega
              have hb2 : ((x : Int) != (y : Int)) = true := by simp; omega
              have hax : hasG W H (x : Int) = true := hasG_iff.2 ⟨by omega, by rw [HK.out]; exact hlt⟩
              have hay : hasG W H (y : Int) = true := hasG_iff.2 ⟨by omega, by rw [HK.out]; exact hly⟩
              have HWK := Lib.hid (fun w h h2 => specWalk W H A A2 n cap n2 c2 L P x y w h h2 hn hn2 HSZ.out hax hay)
              have hen := entry_two (W := W) (H := H) (L := L) (P := P) (a := (x : Int)) (b := (y : Int)) (by omega)
              have HEN := Lib.hid hen
              have a0 : wr.cell? ⟨w.heap.size, 0, none⟩ = some (.int .i64 W) := (twoB_mesh BY.out).cell 0
              have a1 : wr.cell? ⟨w.heap.size, 1, none⟩ = some (.int .i64 H) := (twoB_mesh BY.out).cell 1
              have a2 : wr.cell? ⟨w.heap.size, 2, none⟩ = some (.slice A n cap) := (twoB_mesh BY.out).cell 2
              have b0 : wr.cell? ⟨w.heap.size + 1, 0, none⟩ = some (.slice A2 n2 c2) := (twoB_table BY.out).cell 0
              have hi2 := HI.out.old BY.out
              have hp2 := HP.out.old BY.out
              clear hen hax hay
              go_wp2_with fail
              refine (HWK.out _ hi2 hp2).mono ?_
              rintro e w4 ⟨v, rfl, o4, b4⟩
              obtain ⟨A4, c4, rfl, _⟩ := own_form o4
              have B4 := Lib.hid (below_then BY.out (gb_of_below b4 none))
              obtain ⟨wl, hwl⟩ : ∃ q, walkOf W H L P x y = q := ⟨_, rfl⟩
              rw [hwl] at HEN
              have hlen : wl.length ≤ 16 := by rw [← hwl]; exact walkOf_len _ _
              clear o4 b4 hi2 hp2 a0 a1 a2 b0
              rw [hwl]
              clear hwl
              cases wl with
              | nil =>
                have HE := Lib.hid (tableG_no (W := W) (H := H) (L := L) (P := P) (a := x) (b := y) (by rw [HK.out]; exact hlt) (by rw [HK.out]; exact hly) (HEN.out.trans rfl))
                simp only [List.length_nil]
                go_wp2_with fail
                go_ret
                exact ⟨ret_bool HE.out.symm, gb_of_below (twoB_old B4.out) none⟩
              | cons c cs =>
                have HE := Lib.hid (pairs_next HPR.out (HEN.out.trans rfl))
                obtain ⟨q, hq⟩ : ∃ q, (c :: cs).length = q := ⟨_, rfl⟩
                have hq0 : ((q : Int) == 0) = false := by rw [← hq]; simp; omega
                rw [hq] at hlen ⊢
                clear hq
                go_wp2_with fail
                go_roundw
                case rel => exact ⟨y + 1, by go_num, by omega, HE.out, B4.out⟩
                case measure => simp [intOf]; omega
          · obtain ⟨e1, e2⟩ : (y : Int) = k ∧ True := ⟨by omega, trivial⟩
            have HE := Lib.hid (pairs_row HPR.out (by rw [HK.out]; exact e1))
            clear e1 e2
            go_wp2_with fail
            go_roundw
            case rel => exact ⟨x + 1, by go_num, by omega, HE.out, BY.out⟩
            case measure => simp [intOf]; omega
      · have hxk : (x : Int) = k := by omega
        have HE := Lib.hid (tableG_yes HSZ.out HX.out.1 (by rw [HK.out]; exact hxk))
        clear hxk
        go_wp2_with fail
        go_ret
        exact ⟨ret_bool HE.out.symm, gb_of_below (twoB_old BX.out) none⟩
end Go.Proofs.Ytplpdjpldadcmaa
end

section
namespace Go.Proofs.Ytplpdjpldadcmaa
open Go.ChangeShapes Go.WideShapes Go.ChangeAt Go.RowKit
set_option linter.unusedVariables false

theorem specTableOkV (W H : Int) (A A2 : Option Addr) (n cap n2 c2 : Nat) (L P : List Int) (b : Bool) (hb : tableG W H L P = b) (w : World) (h : IntAt w w.heap.size A n L) (h2 : IntAt w w.heap.size A2 n2 P) (hn : n ≤ 1000000000) (hn2 : n2 ≤ 1000000000) :
    Calls Try.prog 94 #[.agg #[.int .i64 W, .int .i64 H, .slice A n cap], .agg #[.slice A2 n2 c2]] w (RetB b w) := hb ▸ specTableOk W H A A2 n cap n2 c2 L P w h h2 hn hn2
theorem below_undrew3 {B : Nat} {a b : World} (h : Below B a.drew b) : Below B a b := ⟨h.os, h.tape, h.output, h.size, h.block⟩
end Go.Proofs.Ytplpdjpldadcmaa
end

section
namespace Go.Proofs.Ytplpdjpldadcmaa
open Go.ChangeShapes Go.WideShapes Go.ChangeAt Go.RowKit
set_option linter.unusedVariables false
set_option maxRecDepth 20000

theorem specClassesOk (W H : Int) (A AP AQ : Option Addr) (n cap nP cP nQ cQ : Nat) (L P Q : List Int) (w : World) (h : IntAt w w.heap.size A n L) (hP : IntAt w w.heap.size AP nP P) (hQ : IntAt w w.heap.size AQ nQ Q) (hn : n ≤ 1000000000) (hnP : nP ≤ 1000000000) (hnQ : nQ ≤ 1000000000) :
    Calls Try.prog 75 #[.agg #[.int .i64 W, .int .i64 H, .slice A n cap], .agg #[.slice AP nP cP, .slice AQ nQ cQ]] w (RetB (clsOk W H L P Q) w) := by
  have X0 := Lib.hid (clAt_start (W := W) (H := H) (A := A) (AP := AP) (AQ := AQ) (n := n) (cap := cap) (nP := nP) (cP := cP) (nQ := nQ) (cQ := cQ) (w := w))
  have HI := Lib.hid h
  have HP := Lib.hid hP
  have HQ := Lib.hid hQ
  cases ha : tableG W H L P with
  | false =>
    have HA := Lib.hid (specTableOkV W H A AP n cap nP cP L P false ha _ (X0.out.at h) (X0.out.at hP) hn hnP)
    have HR := Lib.hid (clsOk_no1 (Q := Q) ha)
    clear h hP hQ ha
    go_enter Try.func75, Try.ntmps75
    go_wp2_with fail
    refine HA.out.mono ?_
    rintro e w1 ⟨rfl, hg⟩
    have X1 := Lib.hid (X0.out.gb hg)
    clear hg
    go_wp2_with fail
    go_ret
    exact ⟨ret_bool HR.out.symm, X1.out.g⟩
  | true =>
    obtain ⟨b, hb⟩ : ∃ b, tableG W H L Q = b := ⟨_, rfl⟩
    have HA := Lib.hid (specTableOkV W H A AP n cap nP cP L P true ha _ (X0.out.at h) (X0.out.at hP) hn hnP)
    have HB := Lib.hid (fun w h hQ => specTableOkV W H A AQ n cap nQ cQ L Q b hb w h hQ hn hnQ)
    have HR := Lib.hid (show clsOk W H L P Q = b by rw [clsOk, ha, hb]; rfl)
    clear h hP hQ ha hb
    go_enter Try.func75, Try.ntmps75
    go_wp2_with fail
    refine HA.out.mono ?_
    rintro e w1 ⟨rfl, hg⟩
    have X1 := Lib.hid (X0.out.gb hg)
    have m0 : w1.cell? ⟨w.heap.size, 0, none⟩ = some (.int .i64 W) := X1.out.m.cell 0
    have m1 : w1.cell? ⟨w.heap.size, 1, none⟩ = some (.int .i64 H) := X1.out.m.cell 1
    have m2 : w1.cell? ⟨w.heap.size, 2, none⟩ = some (.slice A n cap) := X1.out.m.cell 2
    have t1 : w1.cell? ⟨w.heap.size + 1, 1, none⟩ = some (.slice AQ nQ cQ) := X1.out.t.cell 1
    clear hg
    go_wp2_with fail
    refine (HB.out _ (X1.out.at HI.out) (X1.out.at HQ.out)).mono ?_
    rintro e w2 ⟨rfl, hg⟩
    have X2 := Lib.hid (X1.out.gb hg)
    clear hg m0 m1 m2 t1
    go_wp2_with fail
    go_ret
    exact ⟨ret_bool HR.out.symm, X2.out.g⟩
theorem specClassesOkV (W H : Int) (A AP AQ : Option Addr) (n cap nP cP nQ cQ : Nat) (L P Q : List Int) (b : Bool) (hb : clsOk W H L P Q = b) (w : World) (h : IntAt w w.heap.size A n L) (hP : IntAt w w.heap.size AP nP P) (hQ : IntAt w w.heap.size AQ nQ Q) (hn : n ≤ 1000000000) (hnP : nP ≤ 1000000000) (hnQ : nQ ≤ 1000000000) :
    Calls Try.prog 75 #[.agg #[.int .i64 W, .int .i64 H, .slice A n cap], .agg #[.slice AP nP cP, .slice AQ nQ cQ]] w (RetB b w) := hb ▸ specClassesOk W H A AP AQ n cap nP cP nQ cQ L P Q w h hP hQ hn hnP hnQ
end Go.Proofs.Ytplpdjpldadcmaa
end

section
namespace Go.Proofs.Ytplpdjpldadcmaa
open Go.ChangeShapes Go.WideShapes Go.ChangeAt Go.RowKit
set_option linter.unusedVariables false
set_option maxRecDepth 20000

set_option maxHeartbeats 1600000 in
theorem specFlits (W H : Int) (A : Option Addr) (n cap : Nat) (D : List Flt) (w : World) (h : RecAt 5 fltC w w.heap.size A n D) (hn : n ≤ 1000000000) :
    Calls Try.prog 76 #[.agg #[.int .i64 W, .int .i64 H], .slice A n cap] w (RetB (lstOk W H D) w) := by
  have HI := Lib.hid h
  have hl := h.1
  have HYES := Lib.hid (lstOk_yes (W := W) (H := H) (D := D))
  have HNO := Lib.hid (fun k x hx hf => lstOk_no (W := W) (H := H) (D := D) (k := k) (x := x) hx hf)
  obtain ⟨r, hr⟩ : ∃ r, lstOk W H D = r := ⟨_, rfl⟩
  rw [hr] at HYES HNO
  rw [hr]
  have GE := Lib.hid (gb_alloc (gb_refl w none) (.cells #[.int .i64 W, .int .i64 H] 36))
  have KE := Lib.hid (Blk.new w 36 #[.int .i64 W, .int .i64 H])
  clear h hr
  go_enter Try.func76, Try.ntmps76
  go_wp2_with fail
  go_loopw [5] (fun i wr => ∃ k : Nat, i = .int .i64 (k : Int) ∧ k ≤ n ∧ (∀ (j : Nat) x, j < k → D[j]? = some x → fltOk W H x = true) ∧ w.grownBy wr none ∧ Blk wr w.heap.size 36 #[.int .i64 W, .int .i64 H]) (fun i _ => n - (intOf i).toNat)
  case atStart => exact ⟨0, rfl, Nat.zero_le _, fun j x hj => by omega, GE.out, KE.out⟩
  case round =>
    obtain ⟨k, rfl, hk, hall, hg, hbk⟩ := hrel
    have HALL := Lib.hid hall
    have HG := Lib.hid hg
    have HB := Lib.hid hbk
    by_cases hlt : k < n
    · obtain ⟨b, o, x, rfl, _, hx, hc⟩ := (HI.out.none (Nat.le_refl _) hg).at k hlt
      obtain ⟨_, a1, a2, _, _⟩ := flt_five hc
      have g0 : wr.cell? ⟨w.heap.size, 0, none⟩ = some (.int .i64 W) := hbk.cell 0
      have g1 : wr.cell? ⟨w.heap.size, 1, none⟩ = some (.int .i64 H) := hbk.cell 1
      have k0 : (0 : Int) ≤ (k : Int) := by omega
      have k1 : (k : Int) < (n : Int) := by omega
      have HX := Lib.hid hx
      obtain ⟨tq, hto⟩ : ∃ t, x.to = t := ⟨_, rfl⟩
      obtain ⟨cl, hcl⟩ : ∃ t, x.cl = t := ⟨_, rfl⟩
      rw [hto] at a1
      rw [hcl] at a2
      cases hh : hasG W H tq with
      | true =>
        have C1 := Lib.hid (fun w => specHasV W H tq true hh w)
        obtain ⟨cb, hcb⟩ : ∃ b, decide (0 ≤ cl ∧ cl ≤ 1) = b := ⟨_, rfl⟩
        have C2 := Lib.hid (fun w => specInV cl 0 1 cb hcb w)
        have HF := Lib.hid (show fltOk W H x = cb by rw [fltOk, hto, hcl, hh, hcb]; rfl)
        clear hx hc hg hall hbk hh hcb hto hcl
        go_wp2_with fail
        go_region_held3 (fun w' => w'.cell? ⟨w.heap.size, 0, none⟩ = some (.int .i64 W) ∧ w'.cell? ⟨w.heap.size, 1, none⟩ = some (.int .i64 H) ∧ w'.cell? ⟨b, o + k * 5 + 1, none⟩ = some (.int .i64 tq) ∧ w'.cell? ⟨b, o + k * 5 + 2, none⟩ = some (.int .i64 cl))
          (first | exact ⟨g0, g1, a1, a2⟩ | exact ⟨d0, d1, d2, d3⟩ | fail)
          (first
            | (go_at_call 54; (with_reducible refine (C1.out _).mono ?_); rintro e w4 ⟨rfl, hg4⟩; have h4 := gb_drF hg4; have d0 := h4.cell g0 (by simp); have d1 := h4.cell g1 (by simp); have d2 := h4.cell a1 (by simp); have d3 := h4.cell a2 (by simp); have G4 := Lib.hid (gb_trans HG.out h4); have B4 := Lib.hid (HB.out.grown h4 (by simp)); clear h4 hg4)
            | (go_at_call 27; (with_reducible refine (C2.out _).mono ?_); rintro e w5 ⟨rfl, rfl⟩)
            | fail)
        all_goals
          clear d0 d1 d2 d3 g0 g1 a1 a2
          cases cb with
          | true =>
            go_wp2_with fail
            go_roundw
            case rel => exact ⟨k + 1, by go_num, by omega, fun j z hj hz => by
              rcases Nat.lt_or_ge j k with h1 | h1
              · exact HALL.out j z h1 hz
              · obtain rfl : j = k := by omega
                rw [HX.out] at hz
                cases hz
                exact HF.out, G4.out, B4.out⟩
            case measure => simp [intOf]; omega
          | false =>
            have HR := Lib.hid (HNO.out k x HX.out HF.out)
            go_wp2_with fail
            go_ret
            exact ⟨ret_bool HR.out.symm, G4.out⟩
      | false =>
        have C1 := Lib.hid (fun w => specHasV W H tq false hh w)
        have HF := Lib.hid (show fltOk W H x = false by rw [fltOk, hto, hh]; rfl)
        have HR := Lib.hid (HNO.out k x HX.out HF.out)
        clear hx hc hg hall hbk hh hto hcl
        go_wp2_with fail
        refine wp_region_held_drew (S := (fun w' => w'.cell? ⟨w.heap.size, 0, none⟩ = some (.int .i64 W) ∧ w'.cell? ⟨w.heap.size, 1, none⟩ = some (.int .i64 H) ∧ w'.cell? ⟨b, o + k * 5 + 1, none⟩ = some (.int .i64 tq) ∧ w'.cell? ⟨b, o + k * 5 + 2, none⟩ = some (.int .i64 cl))) (by kernel_rfl) (⟨g0, g1, a1, a2⟩) (fun hHeld => ?_)
        refine wpAnyH_take (i := 0) (v := ?_) rfl (by kernel_rfl) (by kernel_rfl) (by kernel_rfl) (fun _ _ _ h => h) (Or.inl ⟨by rfl, ?_⟩) (by assumption) ?_
        rotate_left
        · intro wq hSw; (try dsimp only at hSw); go_simp; (try with_reducible rfl)
        simp only [List.getElem_toArray, List.getElem_cons_zero, Act.put, List.setIfInBounds_toArray, List.set_cons_zero, List.set_cons_succ]
        refine wpAnyH_take (i := 1) (v := ?_) rfl (by kernel_rfl) (by kernel_rfl) (by kernel_rfl) (fun _ _ _ h => h) (Or.inl ⟨by rfl, ?_⟩) (by assumption) ?_
        rotate_left
        · intro wq hSw; (try dsimp only at hSw); go_simp; (try with_reducible rfl)
        simp only [List.getElem_toArray, List.getElem_cons_succ, List.getElem_cons_zero, Act.put, List.setIfInBounds_toArray, List.set_cons_zero, List.set_cons_succ]
        refine wpAnyH_take (i := 2) (v := ?_) rfl (by kernel_rfl) (by kernel_rfl) (by kernel_rfl) (fun _ _ _ h => h) (Or.inl ⟨by rfl, ?_⟩) (by assumption) ?_
        rotate_left
        · intro wq hSw; (try dsimp only at hSw); go_simp; (try with_reducible rfl)
        simp only [List.getElem_toArray, List.getElem_cons_succ, List.getElem_cons_zero, Act.put, List.setIfInBounds_toArray, List.set_cons_zero, List.set_cons_succ]
        refine wpAnyH_take (i := 3) (v := ?_) rfl (by kernel_rfl) (by kernel_rfl) (by kernel_rfl) (fun _ _ _ h => h) (Or.inl ⟨by rfl, ?_⟩) (by assumption) ?_
        rotate_left
        · intro wq hSw; (try dsimp only at hSw); go_simp; (try with_reducible rfl)
        simp only [List.getElem_toArray, List.getElem_cons_succ, List.getElem_cons_zero, Act.put, List.setIfInBounds_toArray, List.set_cons_zero, List.set_cons_succ]
        refine wpAnyH_take (i := 4) (v := ?_) rfl (by kernel_rfl) (by kernel_rfl) (by kernel_rfl) (fun _ _ _ h => h) (Or.inl ⟨by rfl, ?_⟩) (by assumption) ?_
        rotate_left
        · intro wq hSw; (try dsimp only at hSw); go_simp; (try with_reducible rfl)
        simp only [List.getElem_toArray, List.getElem_cons_succ, List.getElem_cons_zero, Act.put, List.setIfInBounds_toArray, List.set_cons_zero, List.set_cons_succ]
        refine wpAnyH_take (i := 5) (v := ?_) rfl (by kernel_rfl) (by kernel_rfl) (by kernel_rfl) (fun _ _ _ h => h) (Or.inl ⟨by rfl, ?_⟩) (by assumption) ?_
        rotate_left
        · intro wq hSw; (try dsimp only at hSw); go_simp; (try with_reducible rfl)
        simp only [List.getElem_toArray, List.getElem_cons_succ, List.getElem_cons_zero, Act.put, List.setIfInBounds_toArray, List.set_cons_zero, List.set_cons_succ]
        refine wpAnyH_ready (rs := [6]) (by kernel_rfl) (by simp) ?_
        refine AllReadyH.cons rfl (fun K hK => ?_) AllReadyH.nil
        go_simp
        refine (C1.out _).mono ?_; rintro e w4 ⟨rfl, hg4⟩; have h4 := gb_drF hg4; have d0 := h4.cell g0 (by simp); have d1 := h4.cell g1 (by simp); have d2 := h4.cell a1 (by simp); have d3 := h4.cell a2 (by simp); have G4 := Lib.hid (gb_trans HG.out h4); clear h4 hg4
        try go_wp2_with fail
        refine hK.out _ _ (⟨d0, d1, d2, d3⟩) (fun hHeld => ?_)
        clear hK K
        try simp only [List.getElem_toArray, List.getElem_cons_succ, List.getElem_cons_zero, Act.put, List.setIfInBounds_toArray, List.set_cons_zero, List.set_cons_succ]
        refine wpAnyH_take (i := 7) (v := ?_) rfl (by kernel_rfl) (by kernel_rfl) (by kernel_rfl) (fun _ _ _ h => h) (Or.inl ⟨by rfl, ?_⟩) (by assumption) ?_
        rotate_left
        · intro wq hSw; (try dsimp only at hSw); go_simp; (try with_reducible rfl)
        simp only [List.getElem_toArray, List.getElem_cons_succ, List.getElem_cons_zero, Act.put, List.setIfInBounds_toArray, List.set_cons_zero, List.set_cons_succ]
        refine wpAnyH_take (i := 8) (v := ?_) rfl (by kernel_rfl) (by kernel_rfl) (by kernel_rfl) (fun _ _ _ h => h) (Or.inl ⟨by rfl, ?_⟩) (by assumption) ?_
        rotate_left
        · intro wq hSw; (try dsimp only at hSw); go_simp; (try with_reducible rfl)
        simp only [List.getElem_toArray, List.getElem_cons_succ, List.getElem_cons_zero, Act.put, List.setIfInBounds_toArray, List.set_cons_zero, List.set_cons_succ]
        refine wpAnyH_take (i := 9) (v := undef) rfl (by kernel_rfl) (by kernel_rfl) (by kernel_rfl) (fun _ _ _ h => h) (Or.inr ⟨by rfl, rfl⟩) (by assumption) ?_
        simp only [List.getElem_toArray, List.getElem_cons_succ, List.getElem_cons_zero, Act.put, List.setIfInBounds_toArray, List.set_cons_zero, List.set_cons_succ]
        refine wpAnyH_take (i := 10) (v := undef) rfl (by kernel_rfl) (by kernel_rfl) (by kernel_rfl) (fun _ _ _ h => h) (Or.inr ⟨by rfl, rfl⟩) (by assumption) ?_
        simp only [List.getElem_toArray, List.getElem_cons_succ, List.getElem_cons_zero, Act.put, List.setIfInBounds_toArray, List.set_cons_zero, List.set_cons_succ]
        refine wpAnyH_take (i := 11) (v := undef) rfl (by kernel_rfl) (by kernel_rfl) (by kernel_rfl) (fun _ _ _ h => h) (Or.inr ⟨by rfl, rfl⟩) (by assumption) ?_
        simp only [List.getElem_toArray, List.getElem_cons_succ, List.getElem_cons_zero, Act.put, List.setIfInBounds_toArray, List.set_cons_zero, List.set_cons_succ]
        refine wpAnyH_take (i := 12) (v := undef) rfl (by kernel_rfl) (by kernel_rfl) (by kernel_rfl) (fun _ _ _ h => h) (Or.inr ⟨by rfl, rfl⟩) (by assumption) ?_
        simp only [List.getElem_toArray, List.getElem_cons_succ, List.getElem_cons_zero, Act.put, List.setIfInBounds_toArray, List.set_cons_zero, List.set_cons_succ]
        refine wpAnyH_take (i := 13) (v := undef) rfl (by kernel_rfl) (by kernel_rfl) (by kernel_rfl) (fun _ _ _ h => h) (Or.inr ⟨by rfl, rfl⟩) (by assumption) ?_
        simp only [List.getElem_toArray, List.getElem_cons_succ, List.getElem_cons_zero, Act.put, List.setIfInBounds_toArray, List.set_cons_zero, List.set_cons_succ]
        refine wpAnyH_take (i := 14) (v := undef) rfl (by kernel_rfl) (by kernel_rfl) (by kernel_rfl) (fun _ _ _ h => h) (Or.inr ⟨by rfl, rfl⟩) (by assumption) ?_
        simp only [List.getElem_toArray, List.getElem_cons_succ, List.getElem_cons_zero, Act.put, List.setIfInBounds_toArray, List.set_cons_zero, List.set_cons_succ]
        refine wpAnyH_take (i := 15) (v := undef) rfl (by kernel_rfl) (by kernel_rfl) (by kernel_rfl) (fun _ _ _ h => h) (Or.inr ⟨by rfl, rfl⟩) (by assumption) ?_
        simp only [List.getElem_toArray, List.getElem_cons_succ, List.getElem_cons_zero, Act.put, List.setIfInBounds_toArray, List.set_cons_zero, List.set_cons_succ]
        refine wpAnyH_take (i := 16) (v := ?_) rfl (by kernel_rfl) (by kernel_rfl) (by kernel_rfl) (fun _ _ _ h => h) (Or.inl ⟨by rfl, ?_⟩) (by assumption) ?_
        rotate_left
        · intro wq hSw; (try dsimp only at hSw); go_simp; (try with_reducible rfl)
        simp only [List.getElem_toArray, List.getElem_cons_succ, List.getElem_cons_zero, Act.put, List.setIfInBounds_toArray, List.set_cons_zero, List.set_cons_succ]
        refine wpAnyH_done (by kernel_rfl) ?_ _
        clear d0 d1 d2 d3 g0 g1 a1 a2
        go_wp2_with fail
        go_ret
        exact ⟨ret_bool HR.out.symm, G4.out⟩
    · obtain rfl : k = n := by omega
      have HR := Lib.hid (HYES.out (fun j x hx => HALL.out j x (by have := (List.getElem?_eq_some_iff.1 hx).1; omega) hx))
      have k1 : ¬ (k : Int) < (k : Int) := by omega
      clear hg hall hbk
      go_wp2_with fail
      go_ret
      exact ⟨ret_bool HR.out.symm, HG.out⟩
end Go.Proofs.Ytplpdjpldadcmaa
end
