/- What is proved here: the drawn line of the law on fields is a text of at most 2,000 bytes; only new blocks are written. -/
import Derived.Test.YtlbjopmiaophkaaDoorPick
namespace Go.Proofs.YtlbjopmiaophkaaDoor
open Go.ChangeShapes Go.WideShapes Go.ChangeAt Go.RowKit
set_option linter.unusedVariables false

def DrawnLine (w : World) (e : Ending) (w' : World) : Prop := ∃ s : ByteArray, e = .returned (.string s) ∧ s.size ≤ 2000 ∧ Below w.heap.size w w'

/-- What the loops know: a text of at most k bytes, the cursor as it should be. -/
def LineAt (g : Nat) (w : World) (k : Nat) (v : Value) (wr : World) : Prop := ∃ s : ByteArray, v = .string s ∧ s.size ≤ k ∧ Cur wr g ∧ w.grownBy wr (some g)

set_option maxRecDepth 100000 in
set_option maxHeartbeats 2000000 in
theorem drawSplitFields (A : Option Addr) (n cap : Nat) (w : World) (hr : ByteRow w w.heap.size A n) (hn : n ≤ 1048576) :
    Calls Tryd.prog 15 #[.slice A n cap] w (DrawnLine w) := by
  go_enter Tryd.func15, Tryd.ntmps15
  go_wp2_with fail
  refine (l01New _ _ _ _ hr hn).mono ?_
  rintro e w1 ⟨g, rfl, hg, hc1, hb1⟩
  clear hr hn
  have HB1 := Lib.hid hb1
  have HG : Hid (w.heap.size ≤ g) := hg
  clear hb1 hg
  go_wp2_with fail
  refine (l01Below 9 _ _ hc1).mono ?_
  rintro e w2 ⟨r0, rfl, hr00, hr01, hr02, hc2, hg2⟩
  have HG2 := Lib.hid hg2
  clear hg2
  go_wp2_with fail
  refine (l01Once _ _ _ hc2).mono ?_
  rintro e w3 ⟨b, rfl, hc3, hg3⟩
  have HG3 := Lib.hid (gb_trans HG2.out hg3)
  clear hg3
  rcases b with _ | _
  · obtain ⟨z, hz⟩ : ∃ z, r0 = z := ⟨_, rfl⟩
    subst hz
    have hz0 : 0 ≤ r0 := hr00
    have hz1 : r0 ≤ 25 := by omega
    have HGX := Lib.hid HG3.out
    clear hr00 hr01 hr02 HG2 HG3
    go_wp2_with fail
    go_loopw [5, 6] (fun v i wr => ∃ k : Nat, (k : Int) ≤ 25 ∧ i = .int .i64 (k : Int) ∧ LineAt g w1 (10 * k) v wr) (fun _ i _ => 26 - (intOf i).toNat)
    case atStart => exact ⟨0, by omega, rfl, ⟨#[]⟩, rfl, Nat.le_refl _, hc3, HGX.out⟩
    case round =>
      obtain ⟨k, hk, rfl, s, rfl, hs, hcr, hgr⟩ := hrel
      obtain ⟨wo, rfl⟩ : ∃ wo : World, wo = wr := ⟨_, rfl⟩
      have HGR := Lib.hid hgr
      clear hgr
      by_cases hlt : (k : Int) < r0
      · by_cases hk0 : k = 0
        · subst hk0
          go_wp2_with fail
          refine (l01Once 5 _ _ hcr).mono ?_
          rintro e wf ⟨bf, rfl, hcf, hgf⟩
          have HGF := Lib.hid (gb_trans HGR.out hgf)
          clear hgf
          cases bf
          · go_wp2_with fail
            go_loopw [5, 7] (fun v i wr => ∃ j : Nat, j ≤ 5 ∧ i = .int .i64 (j : Int) ∧ LineAt g w1 (10 * 0 + 3 + j) v wr) (fun _ i _ => 6 - (intOf i).toNat)
            case atStart => exact ⟨0, by omega, rfl, _, rfl, by omega, hcf, HGF.out⟩
            case round =>
              obtain ⟨j, hj, rfl, t, rfl, ht, hct, hgt⟩ := hrel
              have HGT := Lib.hid hgt
              clear hgt
              go_wp2_with fail
              refine (l01Below 5 _ _ hct).mono ?_
              rintro e wa ⟨ra, rfl, hra0, hra1, hra2, hca, hga⟩
              have HGA := Lib.hid (gb_trans HGT.out hga)
              clear hga
              by_cases hjr : (j : Int) ≤ ra
              · go_wp2_with fail
                refine (l01Below 94 _ _ hca).mono ?_
                rintro e wb ⟨rb, rfl, hrb0, hrb1, hrb2, hcb, hgb⟩
                have HGB := Lib.hid (gb_trans HGA.out hgb)
                clear hgb
                obtain ⟨c, hc⟩ : ∃ c : Nat, rb = (c : Int) := ⟨rb.toNat, by omega⟩
                subst hc
                have hcv := conv_one wb (33 + c) (33 + (c : Int)) (by omega) (by omega)
                obtain ⟨d, hd⟩ : ∃ d, UInt8.ofNat (33 + c) = d := ⟨_, rfl⟩
                rw [hd] at hcv
                have HCB := Lib.hid hcb
                clear hd hcb
                go_wp2_with fail
                go_roundw
                case rel => exact ⟨j + 1, by omega, by go_num, _, rfl, by rw [ByteArray.size_append]; show t.size + 1 ≤ _; omega, HCB.out.grown (gb_alloc (gb_refl _ none) _) (fun k e => by cases e), gb_alloc HGB.out _⟩
                case measure => simp [intOf] <;> omega
              · go_wp2_with fail
                go_roundw
                case rel => exact ⟨1, by omega, by go_num, t, rfl, by omega, hca, HGA.out⟩
                case measure => simp [intOf] <;> omega
          · go_wp2_with fail
            refine (l01Below 2 _ _ hcf).mono ?_
            rintro e wc ⟨rc, rfl, hrc0, hrc1, hrc2, hcc, hgc⟩
            have HGC := Lib.hid (gb_trans HGF.out hgc)
            clear hgc
            go_wp2_with fail
            refine (l01Below 3 _ _ hcc).mono ?_
            rintro e wd ⟨rd, rfl, hrd0, hrd1, hrd2, hcd, hgd⟩
            have HGD := Lib.hid (gb_trans HGC.out hgd)
            clear hgd
            have hp : 0 ≤ rc * rd ∧ rc * rd ≤ 2 := by
              rcases (show rc = 0 ∨ rc = 1 by omega) with h | h
              · rw [h]; omega
              · rw [h]; omega
            obtain ⟨q, hq⟩ : ∃ q, rc * rd = q := ⟨_, rfl⟩
            rw [hq] at hp
            obtain ⟨hp0, hp1⟩ := hp
            obtain ⟨m, hm⟩ : ∃ m : Nat, 1 + q = (m : Int) := ⟨(1 + q).toNat, by omega⟩
            have hl := fun W => l01LongOf m 32 W (by omega)
            rw [← hm] at hl
            have HL := Lib.hid hl
            have hm3 : m ≤ 3 := by omega
            clear hl hm hrc2 hrd2
            go_wp2_with fail
            refine (HL.out _).mono ?_
            rintro e we ⟨t0, rfl, ht0, hge⟩
            have hce := hcd.grown hge (fun k e => by cases e)
            have HGE := Lib.hid (gb_trans HGD.out (gb_of_none hge _))
            have hsz : (s ++ t0).size ≤ 10 * 0 + 3 := by rw [ByteArray.size_append]; omega
            clear hge
            go_wp2_with fail
            go_loopw [5, 7] (fun v i wr => ∃ j : Nat, j ≤ 5 ∧ i = .int .i64 (j : Int) ∧ LineAt g w1 (10 * 0 + 3 + j) v wr) (fun _ i _ => 6 - (intOf i).toNat)
            case atStart => exact ⟨0, by omega, rfl, _, rfl, by omega, hce, HGE.out⟩
            case round =>
              obtain ⟨j, hj, rfl, t, rfl, ht, hct, hgt⟩ := hrel
              have HGT := Lib.hid hgt
              clear hgt
              go_wp2_with fail
              refine (l01Below 5 _ _ hct).mono ?_
              rintro e wa ⟨ra, rfl, hra0, hra1, hra2, hca, hga⟩
              have HGA := Lib.hid (gb_trans HGT.out hga)
              clear hga
              by_cases hjr : (j : Int) ≤ ra
              · go_wp2_with fail
                refine (l01Below 94 _ _ hca).mono ?_
                rintro e wb ⟨rb, rfl, hrb0, hrb1, hrb2, hcb, hgb⟩
                have HGB := Lib.hid (gb_trans HGA.out hgb)
                clear hgb
                obtain ⟨c, hc⟩ : ∃ c : Nat, rb = (c : Int) := ⟨rb.toNat, by omega⟩
                subst hc
                have hcv := conv_one wb (33 + c) (33 + (c : Int)) (by omega) (by omega)
                obtain ⟨d, hd⟩ : ∃ d, UInt8.ofNat (33 + c) = d := ⟨_, rfl⟩
                rw [hd] at hcv
                have HCB := Lib.hid hcb
                clear hd hcb
                go_wp2_with fail
                go_roundw
                case rel => exact ⟨j + 1, by omega, by go_num, _, rfl, by rw [ByteArray.size_append]; show t.size + 1 ≤ _; omega, HCB.out.grown (gb_alloc (gb_refl _ none) _) (fun k e => by cases e), gb_alloc HGB.out _⟩
                case measure => simp [intOf] <;> omega
              · go_wp2_with fail
                go_roundw
                case rel => exact ⟨1, by omega, by go_num, t, rfl, by omega, hca, HGA.out⟩
                case measure => simp [intOf] <;> omega
        · have hkp : 0 < k := by omega
          clear hk0
          go_wp2_with fail
          refine (l01Below 2 _ _ hcr).mono ?_
          rintro e wc ⟨rc, rfl, hrc0, hrc1, hrc2, hcc, hgc⟩
          have HGC := Lib.hid (gb_trans HGR.out hgc)
          clear hgc
          go_wp2_with fail
          refine (l01Below 3 _ _ hcc).mono ?_
          rintro e wd ⟨rd, rfl, hrd0, hrd1, hrd2, hcd, hgd⟩
          have HGD := Lib.hid (gb_trans HGC.out hgd)
          clear hgd
          have hp : 0 ≤ rc * rd ∧ rc * rd ≤ 2 := by
            rcases (show rc = 0 ∨ rc = 1 by omega) with h | h
            · rw [h]; omega
            · rw [h]; omega
          obtain ⟨q, hq⟩ : ∃ q, rc * rd = q := ⟨_, rfl⟩
          rw [hq] at hp
          obtain ⟨hp0, hp1⟩ := hp
          obtain ⟨m, hm⟩ : ∃ m : Nat, 1 + q = (m : Int) := ⟨(1 + q).toNat, by omega⟩
          have hl := fun W => l01LongOf m 32 W (by omega)
          rw [← hm] at hl
          have HL := Lib.hid hl
          have hm3 : m ≤ 3 := by omega
          clear hl hm hrc2 hrd2
          go_wp2_with fail
          refine (HL.out _).mono ?_
          rintro e we ⟨t0, rfl, ht0, hge⟩
          have hce := hcd.grown hge (fun k e => by cases e)
          have HGE := Lib.hid (gb_trans HGD.out (gb_of_none hge _))
          have hsz : (s ++ t0).size ≤ 10 * k + 3 := by rw [ByteArray.size_append]; omega
          clear hge
          go_wp2_with fail
          go_loopw [5, 7] (fun v i wr => ∃ j : Nat, j ≤ 5 ∧ i = .int .i64 (j : Int) ∧ LineAt g w1 (10 * k + 3 + j) v wr) (fun _ i _ => 6 - (intOf i).toNat)
          case atStart => exact ⟨0, by omega, rfl, _, rfl, by omega, hce, HGE.out⟩
          case round =>
            obtain ⟨j, hj, rfl, t, rfl, ht, hct, hgt⟩ := hrel
            have HGT := Lib.hid hgt
            clear hgt
            go_wp2_with fail
            refine (l01Below 5 _ _ hct).mono ?_
            rintro e wa ⟨ra, rfl, hra0, hra1, hra2, hca, hga⟩
            have HGA := Lib.hid (gb_trans HGT.out hga)
            clear hga
            by_cases hjr : (j : Int) ≤ ra
            · go_wp2_with fail
              refine (l01Below 94 _ _ hca).mono ?_
              rintro e wb ⟨rb, rfl, hrb0, hrb1, hrb2, hcb, hgb⟩
              have HGB := Lib.hid (gb_trans HGA.out hgb)
              clear hgb
              obtain ⟨c, hc⟩ : ∃ c : Nat, rb = (c : Int) := ⟨rb.toNat, by omega⟩
              subst hc
              have hcv := conv_one wb (33 + c) (33 + (c : Int)) (by omega) (by omega)
              obtain ⟨d, hd⟩ : ∃ d, UInt8.ofNat (33 + c) = d := ⟨_, rfl⟩
              rw [hd] at hcv
              have HCB := Lib.hid hcb
              clear hd hcb
              go_wp2_with fail
              go_roundw
              case rel => exact ⟨j + 1, by omega, by go_num, _, rfl, by rw [ByteArray.size_append]; show t.size + 1 ≤ _; omega, HCB.out.grown (gb_alloc (gb_refl _ none) _) (fun k e => by cases e), gb_alloc HGB.out _⟩
              case measure => simp [intOf] <;> omega
            · go_wp2_with fail
              go_roundw
              case rel => exact ⟨k + 1, by omega, by go_num, t, rfl, by omega, hca, HGA.out⟩
              case measure => simp [intOf] <;> omega
      · go_wp2_with fail
        refine (l01Below 12 _ _ hcr).mono ?_
        rintro e wg ⟨rg, rfl, hrg0, hrg1, hrg2, hcg, hgg⟩
        have HGG := Lib.hid (gb_trans HGR.out hgg)
        clear hgg hrg2
        by_cases hg0 : rg = 0
        · subst hg0
          go_wp2_with fail
          refine (pickText_new 2 [⟨#[32]⟩, ⟨#[32, 32]⟩, ⟨#[9]⟩, ⟨#[10]⟩, ⟨#[127]⟩, ⟨#[233]⟩] _ _ 6 6 g wg hcg rfl rfl (by omega) (by decide)).mono ?_
          rintro e wh ⟨x, rfl, hx, hch, hgh⟩
          go_wp2_with fail
          go_ret
          exact ⟨_, rfl, by rw [ByteArray.size_append]; omega, HB1.out.trans (gb_below (gb_trans HGG.out hgh) HB1.out.size HG.out)⟩
        · by_cases hg1 : rg = 1
          · subst hg1
            by_cases h600 : s.size < 600
            · go_wp2_with fail
              refine (l01Below 2 _ _ hcg).mono ?_
              rintro e wi ⟨ri, rfl, hri0, hri1, hri2, hci, hgi⟩
              have HGI := Lib.hid (gb_trans HGG.out hgi)
              clear hgi hri2
              obtain ⟨m, hm⟩ : ∃ m : Nat, 600 - (s.size : Int) + ri = (m : Int) := ⟨(600 - (s.size : Int) + ri).toNat, by omega⟩
              have hl := fun W => l01LongOf m 32 W (by omega)
              rw [← hm] at hl
              have HL := Lib.hid hl
              have hm3 : m ≤ 601 := by omega
              clear hl hm
              go_wp2_with fail
              refine (HL.out _).mono ?_
              rintro e wj ⟨x, rfl, hx, hgj⟩
              go_wp2_with fail
              go_ret
              exact ⟨_, rfl, by rw [ByteArray.size_append]; omega, HB1.out.trans (gb_below (gb_trans HGI.out (gb_of_none hgj _)) HB1.out.size HG.out)⟩
            · exfalso; omega
          · have e0 : (rg == 0) = false := by simpa using hg0
            have e1 : (rg == 1) = false := by simpa using hg1
            clear hg0 hg1
            go_wp2_with fail
            go_ret
            exact ⟨_, rfl, by omega, HB1.out.trans (gb_below HGG.out HB1.out.size HG.out)⟩
  · clear hr00 hr01 hr02
    go_wp2_with fail
    refine (l01Below 2 _ _ hc3).mono ?_
    rintro e w4 ⟨r1, rfl, hr10, hr11, hr12, hc4, hg4⟩
    have HGX := Lib.hid (gb_trans HG3.out hg4)
    obtain ⟨z, hz⟩ : ∃ z : Int, 24 + r1 = z := ⟨_, rfl⟩
    have hz0 : 0 ≤ z := by omega
    have hz1 : z ≤ 25 := by omega
    clear hr10 hr11 hr12 hg4 HG2 HG3
    go_wp2_with fail
    clear hz
    go_loopw [5, 6] (fun v i wr => ∃ k : Nat, (k : Int) ≤ 25 ∧ i = .int .i64 (k : Int) ∧ LineAt g w1 (10 * k) v wr) (fun _ i _ => 26 - (intOf i).toNat)
    case atStart => exact ⟨0, by omega, rfl, ⟨#[]⟩, rfl, Nat.le_refl _, hc4, HGX.out⟩
    case round =>
      obtain ⟨k, hk, rfl, s, rfl, hs, hcr, hgr⟩ := hrel
      obtain ⟨wo, rfl⟩ : ∃ wo : World, wo = wr := ⟨_, rfl⟩
      have HGR := Lib.hid hgr
      clear hgr
      by_cases hlt : (k : Int) < z
      · by_cases hk0 : k = 0
        · subst hk0
          go_wp2_with fail
          refine (l01Once 5 _ _ hcr).mono ?_
          rintro e wf ⟨bf, rfl, hcf, hgf⟩
          have HGF := Lib.hid (gb_trans HGR.out hgf)
          clear hgf
          cases bf
          · go_wp2_with fail
            go_loopw [5, 7] (fun v i wr => ∃ j : Nat, j ≤ 5 ∧ i = .int .i64 (j : Int) ∧ LineAt g w1 (10 * 0 + 3 + j) v wr) (fun _ i _ => 6 - (intOf i).toNat)
            case atStart => exact ⟨0, by omega, rfl, _, rfl, by omega, hcf, HGF.out⟩
            case round =>
              obtain ⟨j, hj, rfl, t, rfl, ht, hct, hgt⟩ := hrel
              have HGT := Lib.hid hgt
              clear hgt
              go_wp2_with fail
              refine (l01Below 5 _ _ hct).mono ?_
              rintro e wa ⟨ra, rfl, hra0, hra1, hra2, hca, hga⟩
              have HGA := Lib.hid (gb_trans HGT.out hga)
              clear hga
              by_cases hjr : (j : Int) ≤ ra
              · go_wp2_with fail
                refine (l01Below 94 _ _ hca).mono ?_
                rintro e wb ⟨rb, rfl, hrb0, hrb1, hrb2, hcb, hgb⟩
                have HGB := Lib.hid (gb_trans HGA.out hgb)
                clear hgb
                obtain ⟨c, hc⟩ : ∃ c : Nat, rb = (c : Int) := ⟨rb.toNat, by omega⟩
                subst hc
                have hcv := conv_one wb (33 + c) (33 + (c : Int)) (by omega) (by omega)
                obtain ⟨d, hd⟩ : ∃ d, UInt8.ofNat (33 + c) = d := ⟨_, rfl⟩
                rw [hd] at hcv
                have HCB := Lib.hid hcb
                clear hd hcb
                go_wp2_with fail
                go_roundw
                case rel => exact ⟨j + 1, by omega, by go_num, _, rfl, by rw [ByteArray.size_append]; show t.size + 1 ≤ _; omega, HCB.out.grown (gb_alloc (gb_refl _ none) _) (fun k e => by cases e), gb_alloc HGB.out _⟩
                case measure => simp [intOf] <;> omega
              · go_wp2_with fail
                go_roundw
                case rel => exact ⟨1, by omega, by go_num, t, rfl, by omega, hca, HGA.out⟩
                case measure => simp [intOf] <;> omega
          · go_wp2_with fail
            refine (l01Below 2 _ _ hcf).mono ?_
            rintro e wc ⟨rc, rfl, hrc0, hrc1, hrc2, hcc, hgc⟩
            have HGC := Lib.hid (gb_trans HGF.out hgc)
            clear hgc
            go_wp2_with fail
            refine (l01Below 3 _ _ hcc).mono ?_
            rintro e wd ⟨rd, rfl, hrd0, hrd1, hrd2, hcd, hgd⟩
            have HGD := Lib.hid (gb_trans HGC.out hgd)
            clear hgd
            have hp : 0 ≤ rc * rd ∧ rc * rd ≤ 2 := by
              rcases (show rc = 0 ∨ rc = 1 by omega) with h | h
              · rw [h]; omega
              · rw [h]; omega
            obtain ⟨q, hq⟩ : ∃ q, rc * rd = q := ⟨_, rfl⟩
            rw [hq] at hp
            obtain ⟨hp0, hp1⟩ := hp
            obtain ⟨m, hm⟩ : ∃ m : Nat, 1 + q = (m : Int) := ⟨(1 + q).toNat, by omega⟩
            have hl := fun W => l01LongOf m 32 W (by omega)
            rw [← hm] at hl
            have HL := Lib.hid hl
            have hm3 : m ≤ 3 := by omega
            clear hl hm hrc2 hrd2
            go_wp2_with fail
            refine (HL.out _).mono ?_
            rintro e we ⟨t0, rfl, ht0, hge⟩
            have hce := hcd.grown hge (fun k e => by cases e)
            have HGE := Lib.hid (gb_trans HGD.out (gb_of_none hge _))
            have hsz : (s ++ t0).size ≤ 10 * 0 + 3 := by rw [ByteArray.size_append]; omega
            clear hge
            go_wp2_with fail
            go_loopw [5, 7] (fun v i wr => ∃ j : Nat, j ≤ 5 ∧ i = .int .i64 (j : Int) ∧ LineAt g w1 (10 * 0 + 3 + j) v wr) (fun _ i _ => 6 - (intOf i).toNat)
            case atStart => exact ⟨0, by omega, rfl, _, rfl, by omega, hce, HGE.out⟩
            case round =>
              obtain ⟨j, hj, rfl, t, rfl, ht, hct, hgt⟩ := hrel
              have HGT := Lib.hid hgt
              clear hgt
              go_wp2_with fail
              refine (l01Below 5 _ _ hct).mono ?_
              rintro e wa ⟨ra, rfl, hra0, hra1, hra2, hca, hga⟩
              have HGA := Lib.hid (gb_trans HGT.out hga)
              clear hga
              by_cases hjr : (j : Int) ≤ ra
              · go_wp2_with fail
                refine (l01Below 94 _ _ hca).mono ?_
                rintro e wb ⟨rb, rfl, hrb0, hrb1, hrb2, hcb, hgb⟩
                have HGB := Lib.hid (gb_trans HGA.out hgb)
                clear hgb
                obtain ⟨c, hc⟩ : ∃ c : Nat, rb = (c : Int) := ⟨rb.toNat, by omega⟩
                subst hc
                have hcv := conv_one wb (33 + c) (33 + (c : Int)) (by omega) (by omega)
                obtain ⟨d, hd⟩ : ∃ d, UInt8.ofNat (33 + c) = d := ⟨_, rfl⟩
                rw [hd] at hcv
                have HCB := Lib.hid hcb
                clear hd hcb
                go_wp2_with fail
                go_roundw
                case rel => exact ⟨j + 1, by omega, by go_num, _, rfl, by rw [ByteArray.size_append]; show t.size + 1 ≤ _; omega, HCB.out.grown (gb_alloc (gb_refl _ none) _) (fun k e => by cases e), gb_alloc HGB.out _⟩
                case measure => simp [intOf] <;> omega
              · go_wp2_with fail
                go_roundw
                case rel => exact ⟨1, by omega, by go_num, t, rfl, by omega, hca, HGA.out⟩
                case measure => simp [intOf] <;> omega
        · have hkp : 0 < k := by omega
          clear hk0
          go_wp2_with fail
          refine (l01Below 2 _ _ hcr).mono ?_
          rintro e wc ⟨rc, rfl, hrc0, hrc1, hrc2, hcc, hgc⟩
          have HGC := Lib.hid (gb_trans HGR.out hgc)
          clear hgc
          go_wp2_with fail
          refine (l01Below 3 _ _ hcc).mono ?_
          rintro e wd ⟨rd, rfl, hrd0, hrd1, hrd2, hcd, hgd⟩
          have HGD := Lib.hid (gb_trans HGC.out hgd)
          clear hgd
          have hp : 0 ≤ rc * rd ∧ rc * rd ≤ 2 := by
            rcases (show rc = 0 ∨ rc = 1 by omega) with h | h
            · rw [h]; omega
            · rw [h]; omega
          obtain ⟨q, hq⟩ : ∃ q, rc * rd = q := ⟨_, rfl⟩
          rw [hq] at hp
          obtain ⟨hp0, hp1⟩ := hp
          obtain ⟨m, hm⟩ : ∃ m : Nat, 1 + q = (m : Int) := ⟨(1 + q).toNat, by omega⟩
          have hl := fun W => l01LongOf m 32 W (by omega)
          rw [← hm] at hl
          have HL := Lib.hid hl
          have hm3 : m ≤ 3 := by omega
          clear hl hm hrc2 hrd2
          go_wp2_with fail
          refine (HL.out _).mono ?_
          rintro e we ⟨t0, rfl, ht0, hge⟩
          have hce := hcd.grown hge (fun k e => by cases e)
          have HGE := Lib.hid (gb_trans HGD.out (gb_of_none hge _))
          have hsz : (s ++ t0).size ≤ 10 * k + 3 := by rw [ByteArray.size_append]; omega
          clear hge
          go_wp2_with fail
          go_loopw [5, 7] (fun v i wr => ∃ j : Nat, j ≤ 5 ∧ i = .int .i64 (j : Int) ∧ LineAt g w1 (10 * k + 3 + j) v wr) (fun _ i _ => 6 - (intOf i).toNat)
          case atStart => exact ⟨0, by omega, rfl, _, rfl, by omega, hce, HGE.out⟩
          case round =>
            obtain ⟨j, hj, rfl, t, rfl, ht, hct, hgt⟩ := hrel
            have HGT := Lib.hid hgt
            clear hgt
            go_wp2_with fail
            refine (l01Below 5 _ _ hct).mono ?_
            rintro e wa ⟨ra, rfl, hra0, hra1, hra2, hca, hga⟩
            have HGA := Lib.hid (gb_trans HGT.out hga)
            clear hga
            by_cases hjr : (j : Int) ≤ ra
            · go_wp2_with fail
              refine (l01Below 94 _ _ hca).mono ?_
              rintro e wb ⟨rb, rfl, hrb0, hrb1, hrb2, hcb, hgb⟩
              have HGB := Lib.hid (gb_trans HGA.out hgb)
              clear hgb
              obtain ⟨c, hc⟩ : ∃ c : Nat, rb = (c : Int) := ⟨rb.toNat, by omega⟩
              subst hc
              have hcv := conv_one wb (33 + c) (33 + (c : Int)) (by omega) (by omega)
              obtain ⟨d, hd⟩ : ∃ d, UInt8.ofNat (33 + c) = d := ⟨_, rfl⟩
              rw [hd] at hcv
              have HCB := Lib.hid hcb
              clear hd hcb
              go_wp2_with fail
              go_roundw
              case rel => exact ⟨j + 1, by omega, by go_num, _, rfl, by rw [ByteArray.size_append]; show t.size + 1 ≤ _; omega, HCB.out.grown (gb_alloc (gb_refl _ none) _) (fun k e => by cases e), gb_alloc HGB.out _⟩
              case measure => simp [intOf] <;> omega
            · go_wp2_with fail
              go_roundw
              case rel => exact ⟨k + 1, by omega, by go_num, t, rfl, by omega, hca, HGA.out⟩
              case measure => simp [intOf] <;> omega
      · go_wp2_with fail
        refine (l01Below 12 _ _ hcr).mono ?_
        rintro e wg ⟨rg, rfl, hrg0, hrg1, hrg2, hcg, hgg⟩
        have HGG := Lib.hid (gb_trans HGR.out hgg)
        clear hgg hrg2
        by_cases hg0 : rg = 0
        · subst hg0
          go_wp2_with fail
          refine (pickText_new 2 [⟨#[32]⟩, ⟨#[32, 32]⟩, ⟨#[9]⟩, ⟨#[10]⟩, ⟨#[127]⟩, ⟨#[233]⟩] _ _ 6 6 g wg hcg rfl rfl (by omega) (by decide)).mono ?_
          rintro e wh ⟨x, rfl, hx, hch, hgh⟩
          go_wp2_with fail
          go_ret
          exact ⟨_, rfl, by rw [ByteArray.size_append]; omega, HB1.out.trans (gb_below (gb_trans HGG.out hgh) HB1.out.size HG.out)⟩
        · by_cases hg1 : rg = 1
          · subst hg1
            by_cases h600 : s.size < 600
            · go_wp2_with fail
              refine (l01Below 2 _ _ hcg).mono ?_
              rintro e wi ⟨ri, rfl, hri0, hri1, hri2, hci, hgi⟩
              have HGI := Lib.hid (gb_trans HGG.out hgi)
              clear hgi hri2
              obtain ⟨m, hm⟩ : ∃ m : Nat, 600 - (s.size : Int) + ri = (m : Int) := ⟨(600 - (s.size : Int) + ri).toNat, by omega⟩
              have hl := fun W => l01LongOf m 32 W (by omega)
              rw [← hm] at hl
              have HL := Lib.hid hl
              have hm3 : m ≤ 601 := by omega
              clear hl hm
              go_wp2_with fail
              refine (HL.out _).mono ?_
              rintro e wj ⟨x, rfl, hx, hgj⟩
              go_wp2_with fail
              go_ret
              exact ⟨_, rfl, by rw [ByteArray.size_append]; omega, HB1.out.trans (gb_below (gb_trans HGI.out (gb_of_none hgj _)) HB1.out.size HG.out)⟩
            · exfalso; omega
          · have e0 : (rg == 0) = false := by simpa using hg0
            have e1 : (rg == 1) = false := by simpa using hg1
            clear hg0 hg1
            go_wp2_with fail
            go_ret
            exact ⟨_, rfl, by omega, HB1.out.trans (gb_below HGG.out HB1.out.size HG.out)⟩
end Go.Proofs.YtlbjopmiaophkaaDoor
