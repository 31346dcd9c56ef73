/- What is proved here: the law on the ranks of the rule xy answers true, for every draw; only new blocks are written. -/
import Derived.Test.YtpcmkilaapjaaaaDrawGrid
import Derived.Test.YtpcmkilaapjaaaaDrawPlaces
import Derived.Test.YtpcmkilaapjaaaaBig
import Derived.Test.YtpcmkilaapjaaaaStdTabI
import Derived.Test.YtpcmkilaapjaaaaWalkTI
import Derived.Test.YtpcmkilaapjaaaaTurnP
import Derived.Test.YtpcmkilaapjaaaaXyM
import Derived.Test.YtpcmkilaapjaaaaRankI
import Derived.Test.YtpcmkilaapjaaaaRiseI
import Derived.Deep.RegionHeld3
namespace Go.Proofs.Ytpcmkilaapjaaaa
open Go.ChangeShapes Go.WideShapes Go.ChangeAt Go.RowKit
set_option linter.unusedVariables false
set_option maxRecDepth 20000

theorem walk_up {W H : Int} (hok : okG W H = true) {a b : Nat} (ha : a < cntN W H) (hb : b < cntN W H) : upWay W H (walkG W H [] (stdTab W H 1) a b) = true := by
  unfold walkG
  split
  · rw [← pairW_at rfl hb]
    have h := std_up hok
    unfold stdUp at h
    rw [List.all_eq_true] at h
    refine h _ (List.mem_range.2 ?_)
    rw [sqG_cnt rfl]
    calc a * cntN W H + b < a * cntN W H + cntN W H := by omega
      _ = (a + 1) * cntN W H := by rw [Nat.add_mul, Nat.one_mul]
      _ ≤ cntN W H * cntN W H := Nat.mul_le_mul_right _ ha
  · rfl
theorem wfl_nilX : WfL [] := fun x h => by cases h
theorem gb_drX {a b : World} {row : Option Nat} (h : a.drew.grownBy b row) : a.grownBy b row := ⟨h.os, h.tape, h.output, h.size, h.block⟩
/-- The grid, the mesh, the table in their boxes. -/
structure XyL (W H : Int) (A2 : Option Addr) (c2 : Nat) (P : List Int) (w : World) (b0 b1 b2 : Nat) (wr : World) : Prop where
  kg : Blk wr b0 33 #[.int .i64 W, .int .i64 H]
  km : Blk wr b1 36 #[.int .i64 W, .int .i64 H, .slice none 0 0]
  kt : Blk wr b2 38 #[.slice A2 P.length c2]
  pr : IntAt wr wr.heap.size A2 P.length P
  lb : Below w.heap.size w wr
section
variable {W H : Int} {A2 : Option Addr} {c2 : Nat} {P : List Int} {w wr w' : World} {b0 b1 b2 : Nat}
theorem XyL.gb (h : XyL W H A2 c2 P w b0 b1 b2 wr) (hg : wr.grownBy w' none) : XyL W H A2 c2 P w b0 b1 b2 w' :=
  ⟨h.kg.grown hg (by simp), h.km.grown hg (by simp), h.kt.grown hg (by simp), (h.pr.none (Nat.le_refl _) hg).more hg.size, below_gb h.lb (Nat.le_refl _) hg⟩
theorem XyL.five (h : XyL W H A2 c2 P w b0 b1 b2 wr) : wr.cell? ⟨b1, 0, none⟩ = some (.int .i64 W) ∧ wr.cell? ⟨b1, 1, none⟩ = some (.int .i64 H) ∧ wr.cell? ⟨b1, 2, none⟩ = some (.slice none 0 0) ∧ wr.cell? ⟨b2, 0, none⟩ = some (.slice A2 P.length c2) :=
  ⟨h.km.cell 0, h.km.cell 1, h.km.cell 2, h.kt.cell 0⟩
end
/-- The grid, the walk, and the ranks so far, from the block B on. -/
structure XyR (W H : Int) (T : List Int) (w : World) (b0 B : Nat) (vt : Value) (k : Nat) (v : Value) (wr : World) : Prop where
  kg : Blk wr b0 33 #[.int .i64 W, .int .i64 H]
  rt : wr.ownsRow w.heap.size 3 1 vt T.length (intsV T)
  rr : wr.ownsRow B 3 1 v k (intsV (rksG W H k))
  lt : ∀ q, vt.ownBlock = some q → q < B
  lb : Below w.heap.size w wr
  o1 : b0 < B
  o2 : w.heap.size ≤ B
  o3 : B ≤ wr.heap.size
section
variable {W H : Int} {T : List Int} {w wr w' : World} {b0 B k k' : Nat} {vt v v' : Value}
theorem XyR.gb (h : XyR W H T w b0 B vt k v wr) (hg : wr.grownBy w' none) : XyR W H T w b0 B vt k v w' :=
  ⟨h.kg.grown hg (by simp), own_none h.rt hg, own_none h.rr hg, h.lt, below_gb h.lb (Nat.le_refl _) hg, h.o1, h.o2, Nat.le_trans h.o3 hg.size⟩
theorem XyR.put (h : XyR W H T w b0 B vt k v wr) (ho : w'.ownsRow B 3 1 v' k' (intsV (rksG W H k'))) (hg : wr.grownBy w' v.ownBlock) : XyR W H T w b0 B vt k' v' w' :=
  ⟨h.kg.grown hg (fun e => by have := (h.rr.lt b0 e.symm).1; have := h.o1; omega), h.rt.kept hg (by
    cases hv : vt.ownBlock with
    | none => exact .inl rfl
    | some q => exact .inr (fun e => by have h1 := h.lt q hv; have h2 := (h.rr.lt q e.symm).1; omega)), ho, h.lt, h.lb.grown hg h.lb.size (fun j hj => Nat.le_trans h.o2 (h.rr.lt j hj).1), h.o1, h.o2, Nat.le_trans h.o3 hg.size⟩
end

set_option maxHeartbeats 1600000 in
theorem walk_FnRanksXY (A : Option Addr) (n cap : Nat) (w : World) (hr : ByteRow w w.heap.size A n) :
    Calls Try.prog 4 #[.slice A n cap] w fun e w' => e = .returned (.bool true) ∧ Below w.heap.size w w' := by
  obtain ⟨i0, hi, hz0, hz1, hz2⟩ := info_parts info_int
  by_cases hbig : 1048576 < n
  · go_enter Try.func4, Try.ntmps4
    go_wp2_with fail
    refine (lawsBig A n cap _).mono ?_
    rintro e w1 ⟨rfl, rfl⟩
    rw [decide_eq_true hbig]
    go_wp2_with fail
    go_ret
    exact ⟨rfl, Below.refl _ _⟩
  · have HR := Lib.hid hr
    have hn : n ≤ 1048576 := by omega
    clear hr
    go_enter Try.func4, Try.ntmps4
    go_wp2_with fail
    refine (lawsBig A n cap _).mono ?_
    rintro e w1 ⟨rfl, rfl⟩
    rw [decide_eq_false hbig]
    go_wp2_with fail
    refine (drawGrid A n cap _ HR.out hn).mono ?_
    rintro e w1 ⟨W, H, rfl, hok, hb⟩
    obtain ⟨W2, hW2⟩ : ∃ W2, W2 = (w1.alloc (.cells #[.int .i64 W, .int .i64 H] 33)).alloc (.cells #[.int .i64 W, .int .i64 H, .slice none 0 0] 36) := ⟨_, rfl⟩
    have hg2 : w1.grownBy W2 none := by rw [hW2]; exact gb_alloc (gb_alloc (gb_refl w1 none) _) _
    have hbg : Blk W2 w1.heap.size 33 #[.int .i64 W, .int .i64 H] := by rw [hW2]; exact (Blk.new w1 _ _).alloc _
    have hbm : Blk W2 (w1.heap.size + 1) 36 #[.int .i64 W, .int .i64 H, .slice none 0 0] := by
      have := Blk.new (w1.alloc (.cells #[.int .i64 W, .int .i64 H] 33)) 36 #[.int .i64 W, .int .i64 H, .slice none 0 0]
      rw [alloc_size] at this
      rw [hW2]
      exact this
    have HBG := Lib.hid hbg
    have HBM := Lib.hid hbm
    have HLB := Lib.hid (below_gb hb (Nat.le_refl _) hg2)
    have hso : stdOk W H 1 = true := by rw [stdOk, hok]; simp
    have hsr : stdRes W H 1 = stdTab W H 1 := by rw [stdRes, hso]; rfl
    have hpl := stdRes_length W H 1
    have HUP := Lib.hid (fun (a b : Nat) ha hb => walk_up (W := W) (H := H) hok (a := a) (b := b) ha hb)
    obtain ⟨P, hP⟩ : ∃ P, stdTab W H 1 = P := ⟨_, rfl⟩
    have HST := Lib.hid (fun w => show Calls Try.prog 15 #[.agg #[.int .i64 W, .int .i64 H], .int .i64 1] w (RetTab P true w) from hP ▸ hsr ▸ hso ▸ implStdTab W H 1 w)
    rw [hsr, hP] at hpl
    rw [hP] at HUP
    obtain ⟨N, hN⟩ : ∃ N, cntN W H = N := ⟨_, rfl⟩
    have hNi := cntN_int W H
    have hN16 := cntN_le W H
    have hkc : countG W H = W * H := by simp [countG, hok]
    rw [hN] at HUP hNi hN16
    obtain ⟨o1, o2, o3, o4⟩ := okG_iff.1 hok
    have hN1 : 1 ≤ N := by have : 0 < W * H := Int.mul_pos (by omega) (by omega); omega
    have e1 : wrap64 (W * H) = (N : Int) := by rw [← hkc, ← hNi]; exact IntWalk.wrap64_in _ (by omega)
    have HNI := Lib.hid hNi
    have a0 : W2.cell? ⟨w1.heap.size, 0, none⟩ = some (.int .i64 W) := hbg.cell 0
    have a1 : W2.cell? ⟨w1.heap.size, 1, none⟩ = some (.int .i64 H) := hbg.cell 1
    rw [hW2] at a0 a1
    have HW2 := Lib.hid hW2
    have E1 := Lib.hid e1
    clear hok hb hg2 hbg hbm hso hsr hP hN hNi hkc o1 o2 o3 o4 hW2 e1
    go_wp2_with fail
    (try rw [← HW2.out])
    refine (HST.out _).mono ?_
    rintro e w3 ⟨v, rfl, ho3, hb3⟩
    obtain ⟨A2, c2, rfl, _⟩ := own_form ho3
    obtain ⟨b0, hb0⟩ : ∃ b, w1.heap.size = b := ⟨_, rfl⟩
    rw [hb0] at HBG HBM
    obtain ⟨b1, hb1⟩ : ∃ b, b0 + 1 = b := ⟨_, rfl⟩
    rw [hb1] at HBM
    have hg4 := gb_alloc (gb_refl w3 none) (.cells #[.slice A2 P.length c2] 38)
    have X4 := Lib.hid (show XyL W H A2 c2 P w b0 b1 w3.heap.size (w3.alloc (.cells #[.slice A2 P.length c2] 38)) from
      ⟨(HBG.out.below hb3 HBG.out.lt).alloc _, (HBM.out.below hb3 HBM.out.lt).alloc _, Blk.new w3 _ _, ((intAt_own ho3 rfl (Nat.le_refl _)).none (Nat.le_refl _) hg4).more hg4.size, below_gb (HLB.out.trans (hb3.mono HLB.out.size)) (Nat.le_refl _) hg4⟩)
    have HRW := Lib.hid (show ByteRow (w3.alloc (.cells #[.slice A2 P.length c2] 38)) (w3.alloc (.cells #[.slice A2 P.length c2] 38)).heap.size A n from
      (HR.out.keep fun p hp => World.cell?_of_block (X4.out.lb.block p.block hp)).more X4.out.lb.size)
    clear ho3 hb3 hg4 a0 a1
    go_wp2_with fail
    refine (drawPlaces A n cap _ HRW.out hn).mono ?_
    rintro e w5 ⟨pb, c3, l, rfl, hl, hlb, hlc, hb5⟩
    have X5 := Lib.hid (X4.out.gb (gb_of_below hb5 none))
    obtain ⟨x0, hx0⟩ : ∃ x, l[0]? = some x := ⟨_, List.getElem?_eq_getElem (by omega)⟩
    obtain ⟨x1, hx1⟩ : ∃ x, l[1]? = some x := ⟨_, List.getElem?_eq_getElem (by omega)⟩
    have hb20 := hlb x0 (List.mem_of_getElem? hx0)
    have hb21 := hlb x1 (List.mem_of_getElem? hx1)
    have p0 := hlc 0 x0 hx0
    have p1 := hlc 1 x1 hx1
    obtain ⟨b2, hb2⟩ : ∃ b, w3.heap.size = b := ⟨_, rfl⟩
    rw [hb2] at X5
    obtain ⟨d0, d1, d2, d3⟩ := X5.out.five
    have a0 : w5.cell? ⟨b0, 0, none⟩ = some (.int .i64 W) := X5.out.kg.cell 0
    have a1 : w5.cell? ⟨b0, 1, none⟩ = some (.int .i64 H) := X5.out.kg.cell 1
    obtain ⟨y0, hy0⟩ : ∃ y : Nat, Int.tmod x0 (N : Int) = (y : Int) := ⟨(Int.tmod x0 (N : Int)).toNat, by rw [Int.tmod_eq_emod_of_nonneg hb20.1]; have h1 := Int.emod_nonneg x0 (show (N : Int) ≠ 0 by omega); omega⟩
    obtain ⟨y1, hy1⟩ : ∃ y : Nat, Int.tmod x1 (N : Int) = (y : Int) := ⟨(Int.tmod x1 (N : Int)).toNat, by rw [Int.tmod_eq_emod_of_nonneg hb21.1]; have h1 := Int.emod_nonneg x1 (show (N : Int) ≠ 0 by omega); omega⟩
    have hy00 : y0 < N := by rw [Int.tmod_eq_emod_of_nonneg hb20.1] at hy0; have h2 := Int.emod_lt_of_pos x0 (show 0 < (N : Int) by omega); omega
    have hy10 : y1 < N := by rw [Int.tmod_eq_emod_of_nonneg hb21.1] at hy1; have h2 := Int.emod_lt_of_pos x1 (show 0 < (N : Int) by omega); omega
    have z3 : IntKind.i64.wrap (y0 : Int) = (y0 : Int) := IntWalk.i64_in _ (by omega)
    have z4 : IntKind.i64.wrap (y1 : Int) = (y1 : Int) := IntWalk.i64_in _ (by omega)
    have z5 : ((N : Int) == 0) = false := by simp; omega
    have z6 : ¬ N = 0 := by omega
    have hup := HUP.out y0 y1 hy00 hy10
    obtain ⟨T, hT⟩ : ∃ T, walkG W H [] P y0 y1 = T := ⟨_, rfl⟩
    have CW := Lib.hid (fun w h2 => show Calls Try.prog 17 #[.agg #[.int .i64 W, .int .i64 H, .slice none 0 0], .agg #[.slice A2 P.length c2], .int .i64 (y0 : Int), .int .i64 (y1 : Int)] w (NewI T w) from hT ▸ implWalkTable W H none A2 0 0 P.length c2 [] P y0 y1 wfl_nilX w (IntAt.nil _ _ _) h2 (by omega) (by omega))
    have hTl : T.length ≤ 16 := by rw [← hT]; unfold walkG; split; exact walkOf_len _ _; simp
    rw [hT] at hup
    have HRI := Lib.hid (rises_up (W := W) (H := H) (T := T) (n := 4 * N) (by rw [← HNI.out]; omega) hup)
    have X5d := Lib.hid (X5.out.gb (gb_drew (gb_refl w5 none)))
    have e1 := E1.out
    clear hlb hlc hl hx0 hx1 hb5 hup hT
    go_wp2_with fail
    (try rw [e1])
    (try rw [hb0])
    (try rw [hb1])
    (try rw [hb2])
    go_region_held3 (fun w' => w'.cell? ⟨b1, 0, none⟩ = some (.int .i64 W) ∧ w'.cell? ⟨b1, 1, none⟩ = some (.int .i64 H) ∧ w'.cell? ⟨b1, 2, none⟩ = some (.slice none 0 0) ∧ w'.cell? ⟨b2, 0, none⟩ = some (.slice A2 P.length c2) ∧ w'.cell? ⟨pb, 0, none⟩ = some (.int .i64 x0) ∧ w'.cell? ⟨pb, 1, none⟩ = some (.int .i64 x1))
      (first | exact ⟨d0, d1, d2, d3, p0, p1⟩ | exact ⟨f0, f1, f2, f3, f4, f5⟩ | fail)
      (first
        | (go_at_call 17; (with_reducible refine (CW.out _ X5d.out.pr).mono ?_); rintro e w6 ⟨v6, rfl, o6, b6⟩; have hg6 := gb_drX (gb_of_below b6 none); have X6 := Lib.hid (X5.out.gb hg6); obtain ⟨f0, f1, f2, f3⟩ := X6.out.five; have f4 := hg6.cell p0 (by simp); have f5 := hg6.cell p1 (by simp); have O6 := Lib.hid o6; clear o6 b6 hg6)
        | fail)
    all_goals
      obtain ⟨A6, c6, rfl, _⟩ := own_form O6.out
      have HLT6 := Lib.hid (show ∀ q, (Value.slice A6 T.length c6).ownBlock = some q → q < w6.heap.size from fun q hq => (O6.out.lt q hq).2)
      have X7 := Lib.hid (show XyR W H T w b0 w6.heap.size (.slice A6 T.length c6) 0 (.slice (some ⟨w6.heap.size, 0, none⟩) 0 0) (w6.alloc (.cells #[] 3)) from
        ⟨X6.out.kg.alloc _, (own_less O6.out X5.out.lb.size).alloc _, World.ownsRow_made (base := w6.heap.size) (e := 3) (size := 1) w6 #[] 0 (Nat.le_refl _) (by decide) rfl, HLT6.out, X6.out.lb.alloc X6.out.lb.size _, X6.out.kg.lt, X6.out.lb.size, by rw [alloc_size]; omega⟩)
      obtain ⟨B, hB⟩ : ∃ B, w6.heap.size = B := ⟨_, rfl⟩
      rw [hB] at X7
      have e4 : wrap64 (4 * (N : Int)) = ((4 * N : Nat) : Int) := by rw [IntWalk.wrap64_in _ (by omega)]; omega
      clear f0 f1 f2 f3 f4 f5 d0 d1 d2 d3 p0 p1 a0 a1 z3 z4 z5 z6 hy0 hy1
      go_wp2_with fail
      (try rw [hB])
      clear hB
      go_loopw [10, 11] (fun v i wr => ∃ k : Nat, i = .int .i64 (k : Int) ∧ k ≤ 4 * N ∧ XyR W H T w b0 B (.slice A6 T.length c6) k v wr) (fun _ i _ => 65 - (intOf i).toNat)
      case atStart => exact ⟨0, rfl, Nat.zero_le _, X7.out⟩
      case round =>
        obtain ⟨k, rfl, hk, hx⟩ := hrel
        have X8 := Lib.hid hx
        obtain ⟨Av, cv, rfl, _⟩ := own_form hx.rr
        clear hx
        by_cases hlt : k < 4 * N
        · have hli : (k : Int) < ((4 * N : Nat) : Int) := by omega
          have g0 : wr.cell? ⟨b0, 0, none⟩ = some (.int .i64 W) := X8.out.kg.cell 0
          have g1 : wr.cell? ⟨b0, 1, none⟩ = some (.int .i64 H) := X8.out.kg.cell 1
          have HNX := Lib.hid (rks_next W H k)
          obtain ⟨q, hq⟩ : ∃ q, rankG W H 1 (k : Int) = q := ⟨_, rfl⟩
          have CR := Lib.hid (fun w => show Calls Try.prog 18 #[.agg #[.int .i64 W, .int .i64 H], .int .i64 1, .int .i64 (k : Int)] w (RetI q none w) from hq ▸ implRankRule W H 1 k (WalkArith.wf_i64 (by omega)) w)
          rw [hq] at HNX
          have b3 := Lib.hid (show ∀ u ∈ [Value.int .i64 q], u.oneCell' = true by simp [Value.oneCell'])
          have b4 := Lib.hid (show k + 1 ≤ maxLen by unfold maxLen; omega)
          clear hq
          go_wp2_with fail
          refine (CR.out _).mono ?_
          rintro e w8 ⟨rfl, hg8⟩
          have X9 := Lib.hid (X8.out.gb hg8)
          clear hg8 g0 g1
          go_wp2_with (at_builtin; refine wpList_append_own _ rfl (.tmp 50) (.tmp 54) 26 rfl B 3 i0 (.int .i64 0) 1 8 Try.underlying26 hi hz0 hz1 hz2 rfl (by decide) _ k _ rfl (X9.out.rr.alloc _) ⟨w8.heap.size, 0, none⟩ 1 1 [.int .i64 q] rfl rfl (World.news_of_block (cs := #[.int .i64 q]) (t := 3) (fr := (0, 0)) (heap_alloc_new w8 _)) b3.out b4.out (by omega) (by have := X9.out.o3; simp; omega) ?_; intro v' w9 hown9 hgrow9 _)
          have X10 := Lib.hid (show XyR W H T w b0 B (.slice A6 T.length c6) (k + 1) v' w9 from (X9.out.gb (gb_alloc (gb_refl w8 none) _)).put (by rw [HNX.out, intsV_append]; exact hown9) hgrow9)
          clear hown9 hgrow9
          go_wp2_with fail
          go_roundw
          case rel => exact ⟨k + 1, by go_num, by omega, X10.out⟩
          case measure => simp [intOf]; omega
        · obtain rfl : k = 4 * N := by omega
          have CI := Lib.hid (show Calls Try.prog 19 #[.slice Av (4 * N) cv, .slice A6 T.length c6] wr (RetB true wr) from HRI.out ▸ implRises Av A6 (4 * N) cv T.length c6 (rksG W H (4 * N)) T wr (intAt_own X8.out.rr (rks_len W H (4 * N)) (Nat.le_refl _)) (intAt_own X8.out.rt rfl (Nat.le_refl _)) (by omega) (by omega))
          go_wp2_with fail
          refine CI.out.mono ?_
          rintro e w8 ⟨rfl, hg8⟩
          have B8 := Lib.hid (X8.out.gb hg8).lb
          clear hg8
          go_wp2_with fail
          go_ret
          exact ⟨by first | rfl | exact ret_bool (by simp), B8.out⟩
end Go.Proofs.Ytpcmkilaapjaaaa
