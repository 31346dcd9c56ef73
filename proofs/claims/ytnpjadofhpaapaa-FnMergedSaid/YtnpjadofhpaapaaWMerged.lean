/- What is proved here: the law on merged and shifted dependencies answers true, for every draw; only new blocks are written. -/
import Derived.Test.YtnpjadofhpaapaaDrawTable
import Derived.Test.YtnpjadofhpaapaaBig
import Derived.Test.YtnpjadofhpaapaaDependsI
import Derived.Test.YtnpjadofhpaapaaSuccI
import Derived.Test.YtnpjadofhpaapaaMergeI
import Derived.Test.YtnpjadofhpaapaaDepR
import Derived.Test.YtnpjadofhpaapaaListD
import Derived.Laws.StructEq
namespace Go.Proofs.Ytnpjadofhpaapaa
open Go.ChangeShapes Go.WideShapes Go.ChangeAt Go.RowKit
set_option linter.unusedVariables false
set_option maxRecDepth 20000

/-- One list of the call's own. -/
def Own1 (w : World) (D : List Dep) (N : Nat) (v : Value) (wr : World) : Prop := wr.ownsRow w.heap.size 36 2 v N (depV D)
/-- The six lists: drawn, of the table, merged in both orders, shifted, shifted back. -/
structure SixD (w : World) (D E X S : List Dep) (N M K : Nat) (va vb vx vy vs vu : Value) (wr : World) : Prop where
  ra : Own1 w D N va wr
  rb : Own1 w E M vb wr
  rx : Own1 w X K vx wr
  ry : Own1 w X K vy wr
  rs : Own1 w S N vs wr
  ru : Own1 w D N vu wr
  lb : Below w.heap.size w wr
section
variable {w wr w' : World} {D E X S : List Dep} {N M K : Nat} {va vb vx vy vs vu : Value}
theorem SixD.gb (h : SixD w D E X S N M K va vb vx vy vs vu wr) (hg : wr.grownBy w' none) : SixD w D E X S N M K va vb vx vy vs vu w' :=
  ⟨own_none h.ra hg, own_none h.rb hg, own_none h.rx hg, own_none h.ry hg, own_none h.rs hg, own_none h.ru hg, below_gb h.lb (Nat.le_refl _) hg⟩
theorem Own1.cells {A : Option Addr} {c : Nat} (h : Own1 w D N (.slice A N c) wr) {j : Nat} {x : Dep} (hj : j < N) (hx : atD D j = x) : ∃ g, A = some ⟨g, 0, none⟩ ∧ wr.cell? ⟨g, j * 2, none⟩ = some (.int .i64 x.1) ∧ wr.cell? ⟨g, j * 2 + 1, none⟩ = some (.int .i64 x.2) := by
  obtain ⟨A', c', e, hA⟩ := own_form h
  obtain ⟨g, hg⟩ := hA (by omega)
  simp only [Value.slice.injEq] at e
  obtain ⟨rfl, _, rfl⟩ := e
  subst hg
  obtain ⟨h1, h2⟩ := dep_cell h j (by have := own_dep_length h; omega)
  rw [hx] at h1 h2
  exact ⟨g, rfl, h1, h2⟩
end
theorem new_own1 {w wr w' : World} {D : List Dep} {N : Nat} {v : Value} (hb : Below w.heap.size w wr) (hN : D.length = N) (ho : w'.ownsRow wr.heap.size 36 2 v D.length (depV D)) : Own1 w D N v w' := by
  subst hN
  exact own_less ho hb.size

set_option maxHeartbeats 1600000 in
theorem walk_FnMerged (A : Option Addr) (n cap : Nat) (w : World) (hr : ByteRow w w.heap.size A n) :
    Calls Try.prog 4 #[.slice A n cap] w fun e w' => e = .returned (.bool true) ∧ Below w.heap.size w w' := by
  by_cases hbig : 1048576 < n
  · go_enter Try.func4, Try.ntmps4
    go_wp2_with fail
    refine (lawsBig A n cap _).mono ?_
    rintro e w1 ⟨rfl, rfl⟩
    rw [decide_eq_true hbig]
    go_wp2_with fail
    go_ret
    exact ⟨rfl, Below.refl _ _⟩
  · have HR := Lib.hid hr
    have hn : n ≤ 1048576 := by omega
    clear hr
    go_enter Try.func4, Try.ntmps4
    go_wp2_with fail
    refine (lawsBig A n cap _).mono ?_
    rintro e w1 ⟨rfl, rfl⟩
    rw [decide_eq_false hbig]
    go_wp2_with fail
    refine (drawDepends A n cap _ HR.out hn).mono ?_
    rintro e w0 ⟨va, D, rfl, hDa, hDs, hDl, ho0, hb0⟩
    have HB0 := Lib.hid hb0
    have HO0 := Lib.hid ho0
    have HR0 := Lib.hid ((HR.out.keep fun p hp => World.cell?_of_block (hb0.block p.block hp)).more hb0.size)
    obtain ⟨hDok, hS1, hS2⟩ := shift64 hDa hDs
    have HDA := Lib.hid hDa
    have HDS := Lib.hid hDs
    have HDOK := Lib.hid hDok
    obtain ⟨Aa, ca, rfl, _⟩ := own_form ho0
    clear ho0 hb0 hDa hDs hDok
    go_wp2_with fail
    refine (drawTable A n cap _ HR0.out hn).mono ?_
    rintro e w1 ⟨W, H, r, v, rfl, hok, hr1, hr4, ho, hb⟩
    have hpl : (stdTab W H r).length ≤ 256 := by rw [stdTab, stdTo_len]; exact sq_le W H
    obtain ⟨P, hP⟩ : ∃ P, stdTab W H r = P := ⟨_, rfl⟩
    rw [hP] at hpl ho
    obtain ⟨A2, c2, rfl, _⟩ := own_form ho
    obtain ⟨W2, hW2⟩ : ∃ W2, W2 = (w1.alloc (.cells #[.int .i64 W, .int .i64 H, .slice none 0 0] 28)).alloc (.cells #[.slice A2 P.length c2] 30) := ⟨_, rfl⟩
    have hg2 : w1.grownBy W2 none := by rw [hW2]; exact gb_alloc (gb_alloc (gb_refl w1 none) _) _
    have hbm : Blk W2 w1.heap.size 28 #[.int .i64 W, .int .i64 H, .slice none 0 0] := by rw [hW2]; exact (Blk.new w1 _ _).alloc _
    have hbt : Blk W2 (w1.heap.size + 1) 30 #[.slice A2 P.length c2] := by
      have := Blk.new (w1.alloc (.cells #[.int .i64 W, .int .i64 H, .slice none 0 0] 28)) 30 #[.slice A2 P.length c2]
      rw [alloc_size] at this
      rw [hW2]
      exact this
    have HIA := Lib.hid (show IntAt W2 W2.heap.size A2 P.length P from ((intAt_own ho rfl (Nat.le_refl _)).none (Nat.le_refl _) hg2).more hg2.size)
    have HLB := Lib.hid (below_gb (HB0.out.trans (hb.mono HB0.out.size)) (Nat.le_refl _) hg2)
    have RA := Lib.hid (show Own1 w D D.length (.slice Aa D.length ca) W2 from own_none (own_below HO0.out hb) hg2)
    have HCD := Lib.hid (fun w h2 => show Calls Try.prog 12 #[.agg #[.int .i64 W, .int .i64 H, .slice none 0 0], .agg #[.slice A2 P.length c2]] w (NewD (depG W H [] P) w) from implDependsOf W H none A2 0 0 P.length c2 [] P wfl_nilD w (IntAt.nil _ _ _) h2 (by omega) (by omega))
    have hdl := depG_len (W := W) (H := H) (L := []) (P := P)
    have hEok := depG_ok (W := W) (H := H) (L := []) (P := P)
    obtain ⟨E, hE⟩ : ∃ E, depG W H [] P = E := ⟨_, rfl⟩
    rw [hE] at HCD hdl hEok
    have hm1 : mergeD D E = insAll D E := merge_yes HDOK.out hEok
    have hm2 : mergeD E D = insAll D E := by rw [merge_yes hEok HDOK.out]; exact (insAll_comm HDA.out (okD_asc hEok)).symm
    have hXok : okD (insAll D E) = true := insAll_ok HDOK.out hEok
    have hl1 := insAll_length D E
    have hl2 := (insAll_length E D).2
    rw [← insAll_comm HDA.out (okD_asc hEok)] at hl2
    obtain ⟨X, hX⟩ : ∃ X, insAll D E = X := ⟨_, rfl⟩
    rw [hX] at hm1 hm2 hXok hl1 hl2
    obtain ⟨S, hS⟩ : ∃ S, moveD D 64 = S := ⟨_, rfl⟩
    have hSl : S.length = D.length := by rw [← hS]; exact move_length D 64
    have hSat := fun j (hj : j < D.length) => move_at (D := D) 64 hj
    rw [hS] at hS1 hS2 hSat
    have CM1 := Lib.hid (fun A c A2 c2 w h h2 => show Calls Try.prog 18 #[.slice A D.length c, .slice A2 E.length c2] w (NewD X w) from hm1 ▸ implMerge A A2 D.length c E.length c2 D E w h h2 (by omega) (by omega))
    have CM2 := Lib.hid (fun A c A2 c2 w h h2 => show Calls Try.prog 18 #[.slice A E.length c, .slice A2 D.length c2] w (NewD X w) from hm2 ▸ implMerge A A2 E.length c D.length c2 E D w h h2 (by omega) (by omega))
    have CS1 := Lib.hid (fun A c w h => show Calls Try.prog 19 #[.slice A D.length c, .int .i64 64] w (NewD S w) from hS1 ▸ implShift A D.length c D 64 w h (by omega))
    have CS2 := Lib.hid (fun A c w h => show Calls Try.prog 19 #[.slice A S.length c, .int .i64 (-64)] w (NewD D w) from hS2 ▸ implShift A S.length c S (-64) w h (by omega))
    have CO := Lib.hid (fun A c w h => show Calls Try.prog 16 #[.slice A X.length c] w (RetB true w) from hXok ▸ implDependsOk A X.length c X w h (by omega))
    have HSAT := Lib.hid hSat
    have HSL := Lib.hid hSl
    have HL1 := Lib.hid (And.intro hl1 hl2)
    have a0 : W2.cell? ⟨w1.heap.size, 0, none⟩ = some (.int .i64 W) := hbm.cell 0
    have a1 : W2.cell? ⟨w1.heap.size, 1, none⟩ = some (.int .i64 H) := hbm.cell 1
    have a2 : W2.cell? ⟨w1.heap.size, 2, none⟩ = some (.slice none 0 0) := hbm.cell 2
    have a3 : W2.cell? ⟨w1.heap.size + 1, 0, none⟩ = some (.slice A2 P.length c2) := hbt.cell 0
    rw [hW2] at a0 a1 a2 a3
    have HW2 := Lib.hid hW2
    clear hok hr1 hr4 ho hb hg2 hbm hbt hE hW2 hP hEok hm1 hm2 hXok hl1 hl2 hX hS hSl hSat hS1 hS2
    go_wp2_with fail
    rw [← HW2.out]
    refine (HCD.out _ HIA.out).mono ?_
    rintro e w3 ⟨vb, rfl, o3, b3⟩
    have RB3 := Lib.hid (new_own1 HLB.out rfl o3)
    have RA3 := Lib.hid (show Own1 w D D.length (.slice Aa D.length ca) w3 from own_below RA.out b3)
    have LB3 := Lib.hid (HLB.out.trans (b3.mono HLB.out.size))
    obtain ⟨Ab, cb, rfl, _⟩ := own_form o3
    clear o3 b3 a0 a1 a2 a3
    go_wp2_with fail
    refine (CM1.out _ _ _ _ _ (depAt_own RA3.out (Nat.le_refl _)) (depAt_own RB3.out (Nat.le_refl _))).mono ?_
    rintro e w4 ⟨vx, rfl, o4, b4⟩
    have RX4 := Lib.hid (new_own1 LB3.out rfl o4)
    have RA4 := Lib.hid (show Own1 w D D.length _ w4 from own_below RA3.out b4)
    have RB4 := Lib.hid (show Own1 w E E.length _ w4 from own_below RB3.out b4)
    have LB4 := Lib.hid (LB3.out.trans (b4.mono LB3.out.size))
    obtain ⟨Ax, cx, rfl, _⟩ := own_form o4
    clear o4 b4
    go_wp2_with fail
    refine (CM2.out _ _ _ _ _ (depAt_own RB4.out (Nat.le_refl _)) (depAt_own RA4.out (Nat.le_refl _))).mono ?_
    rintro e w5 ⟨vy, rfl, o5, b5⟩
    have RY5 := Lib.hid (new_own1 LB4.out rfl o5)
    have RA5 := Lib.hid (show Own1 w D D.length _ w5 from own_below RA4.out b5)
    have RB5 := Lib.hid (show Own1 w E E.length _ w5 from own_below RB4.out b5)
    have RX5 := Lib.hid (show Own1 w X X.length _ w5 from own_below RX4.out b5)
    have LB5 := Lib.hid (LB4.out.trans (b5.mono LB4.out.size))
    obtain ⟨Ay, cy, rfl, _⟩ := own_form o5
    clear o5 b5
    go_wp2_with fail
    refine (CS1.out _ _ _ (depAt_own RA5.out (Nat.le_refl _))).mono ?_
    rintro e w6 ⟨vs, rfl, o6, b6⟩
    have RS6 := Lib.hid (new_own1 LB5.out rfl o6)
    have RA6 := Lib.hid (show Own1 w D D.length _ w6 from own_below RA5.out b6)
    have RB6 := Lib.hid (show Own1 w E E.length _ w6 from own_below RB5.out b6)
    have RX6 := Lib.hid (show Own1 w X X.length _ w6 from own_below RX5.out b6)
    have RY6 := Lib.hid (show Own1 w X X.length _ w6 from own_below RY5.out b6)
    have LB6 := Lib.hid (LB5.out.trans (b6.mono LB5.out.size))
    obtain ⟨As, cs, rfl, _⟩ := own_form o6
    clear o6 b6
    go_wp2_with fail
    refine (CS2.out _ _ _ (depAt_own RS6.out (Nat.le_refl _))).mono ?_
    rintro e w7 ⟨vu, rfl, o7, b7⟩
    obtain ⟨Au, cu, rfl, _⟩ := own_form o7
    have rs7 := own_below RS6.out b7
    rw [HSL.out] at rs7
    have X7 := Lib.hid (show SixD w D E X S D.length E.length X.length (.slice Aa D.length ca) (.slice Ab E.length cb) (.slice Ax X.length cx) (.slice Ay X.length cy) (.slice As D.length cs) (.slice Au D.length cu) w7 from
      ⟨own_below RA6.out b7, own_below RB6.out b7, own_below RX6.out b7, own_below RY6.out b7, rs7, new_own1 LB6.out rfl o7, LB6.out.trans (b7.mono LB6.out.size)⟩)
    obtain ⟨N, hN⟩ : ∃ N, D.length = N := ⟨_, rfl⟩
    obtain ⟨M, hM⟩ : ∃ M, E.length = M := ⟨_, rfl⟩
    obtain ⟨K, hK⟩ : ∃ K, X.length = K := ⟨_, rfl⟩
    rw [hN, hM, hK] at X7
    obtain ⟨⟨hl1, hl2⟩, hl3⟩ := HL1.out
    rw [hN, hM, hK] at hl1
    rw [hN, hK] at hl2
    rw [hM, hK] at hl3
    rw [hN] at hDl HSAT
    rw [hM] at hdl
    rw [hK] at CO
    have f1 : (N : Int) ≤ (K : Int) := by omega
    have f2 : (M : Int) ≤ (K : Int) := by omega
    have f3 : (K : Int) ≤ (N : Int) + (M : Int) := by omega
    have HSN := Lib.hid (HSL.out.trans hN)
    clear o7 b7 rs7
    rw [HSN.out]
    go_wp2_with fail
    go_loopw [11] (fun i wr => ∃ j : Nat, i = .int .i64 (j : Int) ∧ j ≤ K ∧ SixD w D E X S N M K (.slice Aa N ca) (.slice Ab M cb) (.slice Ax K cx) (.slice Ay K cy) (.slice As N cs) (.slice Au N cu) wr) (fun i _ => 1000000 - (Go.RowKit.intOf i).toNat)
    case atStart => exact ⟨0, rfl, Nat.zero_le _, X7.out⟩
    case round =>
      obtain ⟨j, rfl, hj, hx⟩ := hrel
      have X8 := Lib.hid hx
      clear hx
      by_cases hlt : j < K
      · obtain ⟨x, hx⟩ : ∃ x, atD X j = x := ⟨_, rfl⟩
        obtain ⟨g1, h1, c0, c1⟩ := X8.out.rx.cells hlt hx
        obtain ⟨g2, h2, e0, e1⟩ := X8.out.ry.cells hlt hx
        subst h1
        subst h2
        have j0 : (0 : Int) ≤ (j : Int) := by omega
        have j1 : (j : Int) < (K : Int) := by omega
        clear hx
        go_wp2_with fail
        go_quiet (fail)
        go_wp2_with fail
        go_roundw
        case rel => exact ⟨j + 1, by go_num, by omega, X8.out.gb (gb_drewN (gb_refl _ _) _)⟩
        case measure => simp [Go.RowKit.intOf]; omega
      · obtain rfl : j = K := by omega
        go_wp2_with fail
        go_loopw [12] (fun i wr => ∃ k : Nat, i = .int .i64 (k : Int) ∧ k ≤ N ∧ SixD w D E X S N M j (.slice Aa N ca) (.slice Ab M cb) (.slice Ax j cx) (.slice Ay j cy) (.slice As N cs) (.slice Au N cu) wr) (fun i _ => 1000000 - (Go.RowKit.intOf i).toNat)
        case atStart => exact ⟨0, rfl, Nat.zero_le _, X8.out⟩
        case round =>
          obtain ⟨k, rfl, hk, hx⟩ := hrel
          have X9 := Lib.hid hx
          clear hx
          by_cases hlt2 : k < N
          · obtain ⟨x, hx⟩ : ∃ x, atD D k = x := ⟨_, rfl⟩
            have hs := HSAT.out k hlt2
            rw [hx] at hs
            obtain ⟨g1, h1, c0, c1⟩ := X9.out.ra.cells hlt2 hx
            obtain ⟨g2, h2, e0, e1⟩ := X9.out.ru.cells hlt2 hx
            obtain ⟨g3, h3, s0, s1⟩ := X9.out.rs.cells hlt2 hs
            obtain ⟨x0, x1, x2, x3⟩ := HDS.out x (hx ▸ atD_mem (by rw [hN]; exact hlt2))
            have s2 : wr.cell? ⟨g3, k * 2, none⟩ = some (.int .i64 (x.1 + 64)) := s0
            have s3 : wr.cell? ⟨g3, k * 2 + 1, none⟩ = some (.int .i64 (x.2 + 64)) := s1
            have q1 : IntKind.i64.wrap (x.1 + 64) = x.1 + 64 := IntWalk.i64_in _ (by omega)
            have j0 : (0 : Int) ≤ (k : Int) := by omega
            have j1 : (k : Int) < (N : Int) := by omega
            subst h1
            subst h2
            subst h3
            clear hx hs s0 s1
            go_wp2_with fail
            go_quiet (fail)
            go_wp2_with fail
            go_roundw
            case rel => exact ⟨k + 1, by go_num, by omega, X9.out.gb (gb_drewN (gb_refl _ _) _)⟩
            case measure => simp [Go.RowKit.intOf]; omega
          · obtain rfl : k = N := by omega
            go_wp2_with fail
            refine (CO.out _ _ _ (depAt_own X9.out.rx (Nat.le_refl _))).mono ?_
            rintro e w9 ⟨rfl, hg9⟩
            have B9 := Lib.hid (X9.out.gb hg9).lb
            clear hg9
            go_wp2_with fail
            go_ret
            exact ⟨rfl, B9.out⟩
end Go.Proofs.Ytnpjadofhpaapaa
