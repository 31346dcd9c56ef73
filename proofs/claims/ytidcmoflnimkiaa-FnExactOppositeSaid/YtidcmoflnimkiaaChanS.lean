/- What is proved here: what the model's test of a channel, HasChannel and Channels return, for all arguments; only new blocks are written. -/
import Derived.Test.YtidcmoflnimkiaaMeshS
namespace Go.Proofs.Ytidcmoflnimkiaa
open Go.ChangeShapes Go.WideShapes Go.ChangeAt Go.RowKit
set_option linter.unusedVariables false

theorem specMeshOkV (W H : Int) (A : Option Addr) (n cap : Nat) (L : List Int) (b : Bool) (hb : meshG W H L = b) (w : World) (h : IntAt w w.heap.size A n L) (hn : n ≤ 1000000000) :
    Calls Try.prog 27 #[.agg #[.int .i64 W, .int .i64 H, .slice A n cap]] w (RetB b w) := hb ▸ specMeshOk W H A n cap L w h hn
theorem specFindV (A : Option Addr) (n cap B : Nat) (L : List Int) (c : Int) (b : Bool) (hb : inG L c = b) (w : World) (h : IntAt w B A n L) (hn : n ≤ 1000000000) :
    Calls Try.prog 64 #[.slice A n cap, .int .i64 c] w fun e w' => e = .returned (.bool b) ∧ w = w' := hb ▸ specFind A n cap B L c w h hn

theorem specHasCh (W H : Int) (A : Option Addr) (n cap : Nat) (L : List Int) (c : Int) (w : World) (h : IntAt w w.heap.size A n L) (hn : n ≤ 1000000000) :
    Calls Try.prog 57 #[.agg #[.int .i64 W, .int .i64 H, .slice A n cap], .int .i64 c] w (RetB (hasChG W H L c) w) := by
  have HI := Lib.hid h
  clear h
  cases hld : leadsG W H c with
  | false =>
    go_enter Try.func57, Try.ntmps57
    go_wp2_with fail
    refine (specLeadsV W H c false hld _).mono ?_
    rintro e w1 ⟨rfl, hg⟩
    have Hg := Lib.hid (box_gb hg)
    clear hg
    go_wp2_with fail
    go_ret
    exact ⟨ret_bool (by simp [hasChG, hld]), Hg.out⟩
  | true =>
    obtain ⟨b, hb⟩ : ∃ b, inG L c = b := ⟨_, rfl⟩
    have hr : hasChG W H L c = !b := by simp [hasChG, hld, hb]
    have HR := Lib.hid hr
    clear hr
    go_enter Try.func57, Try.ntmps57
    go_wp2_with fail
    refine (specLeadsV W H c true hld _).mono ?_
    rintro e w1 ⟨rfl, hg⟩
    have hbk := box_blk hg
    have a2 := hbk.cell 2
    simp at a2
    have hi := HI.out.none (Nat.le_refl _) (box_gb hg)
    have Hg := Lib.hid (box_gb hg)
    clear hg hbk
    go_wp2_with fail
    refine (specFindV A n cap w.heap.size L c b hb _ hi hn).mono ?_
    rintro e w2 ⟨rfl, rfl⟩
    clear hi
    go_wp2_with fail
    go_ret
    exact ⟨ret_bool (by rw [HR.out]), Hg.out⟩

theorem specHasChV (W H : Int) (A : Option Addr) (n cap : Nat) (L : List Int) (c : Int) (b : Bool) (hb : hasChG W H L c = b) (w : World) (h : IntAt w w.heap.size A n L) (hn : n ≤ 1000000000) :
    Calls Try.prog 57 #[.agg #[.int .i64 W, .int .i64 H, .slice A n cap], .int .i64 c] w (RetB b w) := hb ▸ specHasCh W H A n cap L c w h hn

theorem specHasChannel (W H : Int) (A : Option Addr) (n cap : Nat) (L : List Int) (c : Int) (w : World) (h : IntAt w w.heap.size A n L) (hn : n ≤ 1000000000) :
    Calls Try.prog 30 #[.agg #[.int .i64 W, .int .i64 H, .slice A n cap], .int .i64 c] w (RetB (hasChannelG W H L c) w) := by
  have h0 : IntAt (w.alloc (.cells (meshC W H A n cap) 33)) (w.alloc (.cells (meshC W H A n cap) 33)).heap.size A n L := (h.none (Nat.le_refl _) (gb_alloc (gb_refl _ _) _)).more (by simp)
  have HI := Lib.hid h
  have H0 := Lib.hid h0
  clear h h0
  cases hm : meshG W H L with
  | false =>
    go_enter Try.func30, Try.ntmps30
    go_wp2_with fail
    refine (specMeshOkV W H A n cap L false hm _ H0.out hn).mono ?_
    rintro e w1 ⟨rfl, hg⟩
    have Hg := Lib.hid (box_gb hg)
    clear hg
    go_wp2_with fail
    go_ret
    exact ⟨ret_bool (by simp [hasChannelG, hm]), Hg.out⟩
  | true =>
    obtain ⟨b, hb⟩ : ∃ b, hasChG W H L c = b := ⟨_, rfl⟩
    have hr : hasChannelG W H L c = b := by simp [hasChannelG, hm, hb]
    have HR := Lib.hid hr
    clear hr
    go_enter Try.func30, Try.ntmps30
    go_wp2_with fail
    refine (specMeshOkV W H A n cap L true hm _ H0.out hn).mono ?_
    rintro e w1 ⟨rfl, hg⟩
    have hbk := box_blk hg
    have a0 : w1.cell? ⟨w.heap.size, 0, none⟩ = some (.int .i64 W) := hbk.cell 0
    have a1 : w1.cell? ⟨w.heap.size, 1, none⟩ = some (.int .i64 H) := hbk.cell 1
    have a2 : w1.cell? ⟨w.heap.size, 2, none⟩ = some (.slice A n cap) := hbk.cell 2
    have hi := (HI.out.none (Nat.le_refl _) (box_gb hg)).more (B' := w1.heap.size) (box_gb hg).size
    have Hg := Lib.hid (box_gb hg)
    clear hg hbk
    go_wp2_with fail
    refine (specHasChV W H A n cap L c b hb _ hi hn).mono ?_
    rintro e w2 ⟨rfl, hg2⟩
    have Hg2 := Lib.hid (gb_trans Hg.out hg2)
    clear hi hg2
    go_wp2_with fail
    go_ret
    exact ⟨ret_bool (by rw [HR.out]), Hg2.out⟩

/-- A new list of numbers. -/
def NewI (L : List Int) (w : World) (e : Ending) (w' : World) : Prop :=
  ∃ v, e = .returned v ∧ w'.ownsRow w.heap.size 3 1 v L.length (intsV L) ∧ Below w.heap.size w w'
def ChanAt (W H : Int) (L : List Int) (A : Option Addr) (n cap : Nat) (w : World) (k : Nat) (v : Value) (wr : World) : Prop :=
  wr.ownsRow (w.heap.size + 1) 3 1 v (chansTo W H L k).length (intsV (chansTo W H L k)) ∧ Below (w.heap.size + 1) (w.alloc (.cells (meshC W H A n cap) 33)) wr

theorem below_box {w wr : World} {o : Obj} (h : Below (w.heap.size + 1) (w.alloc o) wr) : Below w.heap.size w wr := by
  have h0 : Below w.heap.size w (w.alloc o) := (Below.refl _ _).alloc (Nat.le_refl _) o
  exact ⟨h.os.trans h0.os, h.tape.trans h0.tape, h.output.trans h0.output, Nat.le_trans h0.size h.size, fun i hi => (h.block i (by omega)).trans (h0.block i hi)⟩
theorem below_gb {B : Nat} {a b c : World} (h : Below B a b) (hB : B ≤ a.heap.size) (k : b.grownBy c none) : Below B a c :=
  h.grown k (Nat.le_trans hB h.size) (fun j e => by cases e)

theorem specChannels (W H : Int) (A : Option Addr) (n cap : Nat) (L : List Int) (w : World) (h : IntAt w w.heap.size A n L) (hn : n ≤ 1000000000) :
    Calls Try.prog 31 #[.agg #[.int .i64 W, .int .i64 H, .slice A n cap]] w (NewI (chansG W H L) w) := by
  obtain ⟨i0, hi, hz0, hz1, hz2⟩ := info_parts info_int
  have HI := Lib.hid h
  clear h
  obtain ⟨ok, hok⟩ : ∃ b, meshG W H L = b := ⟨_, rfl⟩
  obtain ⟨cn, hcn⟩ : ∃ k, countG W H = k := ⟨_, rfl⟩
  obtain ⟨hc0, hc1⟩ := countG_le W H
  rw [hcn] at hc0 hc1
  have hs1 : (w.alloc (.cells (meshC W H A n cap) 33)).heap.size = w.heap.size + 1 := by simp
  have hiA : IntAt ((w.alloc (.cells (meshC W H A n cap) 33)).alloc (.cells #[] 3)) ((w.alloc (.cells (meshC W H A n cap) 33)).alloc (.cells #[] 3)).heap.size A n L :=
    (HI.out.none (Nat.le_refl _) (gb_alloc (gb_alloc (gb_refl _ _) _) _)).more (by simp; omega)
  have HIA := Lib.hid hiA
  have hown0 : ((w.alloc (.cells (meshC W H A n cap) 33)).alloc (.cells #[] 3)).ownsRow (w.heap.size + 1) 3 1 (.slice (some ⟨w.heap.size + 1, 0, none⟩) 0 0) 0 [] := by
    have := World.ownsRow_made (base := w.heap.size + 1) (e := 3) (size := 1) (w.alloc (.cells (meshC W H A n cap) 33)) #[] 0 (by rw [hs1]; exact Nat.le_refl _) (by decide) rfl
    rw [hs1] at this
    exact this
  have HO0 := Lib.hid hown0
  have HB0 := Lib.hid (show Below (w.heap.size + 1) (w.alloc (.cells (meshC W H A n cap) 33)) ((w.alloc (.cells (meshC W H A n cap) 33)).alloc (.cells #[] 3)) from (Below.refl _ _).alloc (by rw [hs1]; exact Nat.le_refl _) _)
  have HS1 := Lib.hid hs1
  clear hiA hown0 hs1
  go_enter Try.func31, Try.ntmps31
  go_wp2_with fail
  refine (specMeshOkV W H A n cap L ok hok _ HIA.out hn).mono ?_
  rintro e w1 ⟨rfl, hg⟩
  have HX := Lib.hid (show ChanAt W H L A n cap w 0 (.slice (some ⟨w.heap.size + 1, 0, none⟩) 0 0) w1 from
    ⟨own_none HO0.out hg, below_gb HB0.out (by rw [HS1.out]; exact Nat.le_refl _) hg⟩)
  clear hg
  go_wp2_with fail
  go_loopw [3, 5] (fun v i wr => ∃ k : Nat, i = .int .i64 (k : Int) ∧ (k : Int) ≤ 4 * cn ∧ (ok = false → k = 0) ∧ ChanAt W H L A n cap w k v wr) (fun _ i _ => 64 - (intOf i).toNat)
  case atStart => exact ⟨0, rfl, by omega, fun _ => rfl, HX.out⟩
  case round =>
    obtain ⟨k, rfl, hk, hko, hown, hbel⟩ := hrel
    have HBel := Lib.hid hbel
    have HOwn := Lib.hid hown
    have hbk := (Blk.new w 33 (meshC W H A n cap)).below hbel (by omega)
    have HBK := Lib.hid hbk
    have a0 : wr.cell? ⟨w.heap.size, 0, none⟩ = some (.int .i64 W) := hbk.cell 0
    have a1 : wr.cell? ⟨w.heap.size, 1, none⟩ = some (.int .i64 H) := hbk.cell 1
    have a2 : wr.cell? ⟨w.heap.size, 2, none⟩ = some (.slice A n cap) := hbk.cell 2
    have hnc := specNodeCount W H wr
    rw [hcn] at hnc
    have HNC := Lib.hid hnc
    have hkn : k ≤ 64 := by omega
    clear hbel hown hbk hnc
    by_cases hlt : (k : Int) < 4 * cn
    · have hltd : decide ((k : Int) < 4 * cn) = true := decide_eq_true hlt
      cases ok with
      | false =>
        obtain rfl := hko rfl
        have hres : chansG W H L = chansTo W H L 0 := by simp [chansG, hok, chansTo_zero]
        have HRes := Lib.hid hres
        clear hres hko
        go_wp2_with fail
        refine HNC.out.mono ?_
        rintro e w2 ⟨rfl, hg2⟩
        have HG2 := Lib.hid hg2
        clear hg2
        go_wp2_with fail
        go_ret
        refine ⟨u3, rfl, ?_, below_box (below_gb HBel.out (by rw [HS1.out]; exact Nat.le_refl _) HG2.out)⟩
        rw [HRes.out]
        exact own_less (own_none HOwn.out HG2.out) (by omega)
      | true =>
        clear hko
        go_wp2_with fail
        refine HNC.out.mono ?_
        rintro e w2 ⟨rfl, hg2⟩
        have hb2 := HBK.out.grown hg2 (by simp)
        have b0 : w2.cell? ⟨w.heap.size, 0, none⟩ = some (.int .i64 W) := hb2.cell 0
        have b1 : w2.cell? ⟨w.heap.size, 1, none⟩ = some (.int .i64 H) := hb2.cell 1
        have b2 : w2.cell? ⟨w.heap.size, 2, none⟩ = some (.slice A n cap) := hb2.cell 2
        have hi2 := (HI.out.below (below_box (below_gb HBel.out (by rw [HS1.out]; exact Nat.le_refl _) hg2))).more (B' := w2.heap.size) (Nat.le_trans (by have := HBel.out.size; rw [HS1.out] at this; omega) hg2.size)
        have HG2 := Lib.hid hg2
        have HB2 := Lib.hid hb2
        clear hg2 hb2 a0 a1 a2
        go_wp2_with fail
        cases hc : hasChG W H L (k : Int) with
        | false =>
          refine (specHasChV W H A n cap L _ false hc _ hi2 hn).mono ?_
          rintro e w3 ⟨rfl, hg3⟩
          have HG3 := Lib.hid (gb_trans HG2.out hg3)
          have HE := Lib.hid (chansTo_no hc)
          clear hg3 hi2 hc
          go_wp2_with fail
          go_roundw
          case rel => exact ⟨k + 1, by go_num, by omega, (fun h => by cases h), by rw [HE.out]; exact own_none HOwn.out HG3.out, below_gb HBel.out (by rw [HS1.out]; exact Nat.le_refl _) HG3.out⟩
          case measure => simp [intOf]; omega
        | true =>
          refine (specHasChV W H A n cap L _ true hc _ hi2 hn).mono ?_
          rintro e w3 ⟨rfl, hg3⟩
          have HG3 := Lib.hid (gb_trans HG2.out hg3)
          have HE := Lib.hid (chansTo_yes hc)
          have hown1 := own_none HOwn.out HG3.out
          have hsz1 : w.heap.size + 1 ≤ w3.heap.size := by have h1 := HBel.out.size; rw [HS1.out] at h1; exact Nat.le_trans h1 HG3.out.size
          have hlen := chansTo_le W H L k
          have b3' := Lib.hid (show ∀ u ∈ [Value.int .i64 (k : Int)], u.oneCell' = true by simp [Value.oneCell'])
          have b4' := Lib.hid (show (chansTo W H L k).length + 1 ≤ maxLen by unfold maxLen; omega)
          clear hg3 hi2 hc b0 b1 b2
          go_wp2_with (at_builtin; refine wpList_append_own _ rfl _ _ 27 rfl (w.heap.size + 1) 3 i0 (.int .i64 0) 1 8 Try.underlying27 hi hz0 hz1 hz2 rfl (by decide) _ (chansTo W H L k).length _ rfl (hown1.alloc _) ⟨w3.heap.size, 0, none⟩ 1 1 [.int .i64 (k : Int)] rfl rfl (World.news_of_block (cs := #[.int .i64 (k : Int)]) (t := 3) (fr := (0, 0)) (heap_alloc_new w3 _)) b3'.out b4'.out (by omega) (by simp; omega) ?_; intro v' w4 hown4 hgrow4 _)
          have X : ChanAt W H L A n cap w (k + 1) v' w4 := by
            refine ⟨by rw [HE.out, List.length_append, intsV_append]; exact hown4, ?_⟩
            have hb3 := below_gb HBel.out (by rw [HS1.out]; exact Nat.le_refl _) HG3.out
            exact (hb3.alloc hsz1 _).grown hgrow4 (by simp; omega) (fun j hj => (hown1.lt j hj).1)
          have HX4 := Lib.hid X
          clear X hown4 hgrow4 hown1
          go_wp2_with fail
          go_roundw
          case rel => exact ⟨k + 1, by go_num, by omega, (fun h => by cases h), HX4.out⟩
          case measure => simp [intOf]; omega
    · have hltd : decide ((k : Int) < 4 * cn) = false := decide_eq_false hlt
      have hres : chansG W H L = chansTo W H L k := by
        cases ok with
        | true =>
          have : (4 * countG W H).toNat = k := by rw [hcn]; omega
          simp [chansG, hok, this]
        | false =>
          obtain rfl := hko rfl
          simp [chansG, hok, chansTo_zero]
      have HRes := Lib.hid hres
      clear hres hko
      go_wp2_with fail
      refine HNC.out.mono ?_
      rintro e w2 ⟨rfl, hg2⟩
      have HG2 := Lib.hid hg2
      clear hg2
      go_wp2_with fail
      go_ret
      refine ⟨u3, rfl, ?_, below_box (below_gb HBel.out (by rw [HS1.out]; exact Nat.le_refl _) HG2.out)⟩
      rw [HRes.out]
      exact own_less (own_none HOwn.out HG2.out) (by omega)
end Go.Proofs.Ytidcmoflnimkiaa
