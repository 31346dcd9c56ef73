/- What is proved here: what the program's MeshOk, HasChannel and Channels return for numbers of 64 bits; only new blocks are written. -/
import Derived.Test.YtidcmoflnimkiaaMeshI
import Derived.Test.YtidcmoflnimkiaaChanS
namespace Go.Proofs.Ytidcmoflnimkiaa
open Go.ChangeShapes Go.WideShapes Go.ChangeAt Go.RowKit
set_option linter.unusedVariables false

/-- The numbers of L have 64 bits. -/
def WfL (L : List Int) : Prop := ∀ x ∈ L, (Lit.int .i64 x).wf = true
theorem WfL.get {L : List Int} (h : WfL L) {k : Nat} {x : Int} (hk : k < L.length) (hx : L.getD k 0 = x) : (Lit.int .i64 x).wf = true := by
  rw [List.getD_eq_getElem?_getD, List.getElem?_eq_getElem hk] at hx
  simp only [Option.getD_some] at hx
  exact h x (hx ▸ List.getElem_mem hk)
theorem leads_wf {W H c : Int} (h : leadsG W H c = true) : (Lit.int .i64 c).wf = true := by
  have h1 : 0 ≤ c ∧ c < 4 * countG W H ∧ 0 ≤ nextG W H (c / 4) (c % 4) := by simpa [leadsG] using h
  have h2 := countG_le W H
  exact WalkArith.wf_i64 (by omega)
theorem mesh_wf {W H : Int} {L : List Int} (h : meshG W H L = true) : WfL L := fun x hx => by
  obtain ⟨j, hj, rfl⟩ := List.getElem_of_mem hx
  have h1 := (meshG_ok h).2 j hj
  simp only [goodAt, Bool.and_eq_true] at h1
  refine leads_wf (W := W) (H := H) ?_
  have := h1.1
  rw [List.getD_eq_getElem?_getD, List.getElem?_eq_getElem hj] at this
  exact this

/-- An index, or -1. -/
def Idx (L : List Int) (c : Int) (w : World) (e : Ending) (w' : World) : Prop := ∃ k : Int, e = .returned (.int .i64 k) ∧ decide (0 ≤ k) = inG L c ∧ w = w'
theorem implIndex (A : Option Addr) (n cap B : Nat) (L : List Int) (c : Int) (w : World) (h : IntAt w B A n L) (hn : n ≤ 1000000000) :
    Calls Try.prog 65 #[.slice A n cap, .int .i64 c] w (Idx L c w) := by
  have hl := h.1
  have HI := Lib.hid h
  clear h
  go_enter Try.func65, Try.ntmps65
  go_wp2_with fail
  go_loop [8] (fun i => ∃ k : Nat, i = .int .i64 (k : Int) ∧ k ≤ n ∧ ∀ j, j < k → L.getD j 0 ≠ c) (fun i => n - (intOf i).toNat)
  case atStart => exact ⟨0, rfl, Nat.zero_le _, fun j h => by omega⟩
  case round =>
    obtain ⟨k, rfl, hk, hne⟩ := hrel
    have HNE := Lib.hid hne
    clear hne
    by_cases hlt : k < n
    · obtain ⟨b, off, rfl, hb, hc⟩ := HI.out.at k hlt
      obtain ⟨x, hx⟩ : ∃ x, L.getD k 0 = x := ⟨_, rfl⟩
      rw [hx] at hc
      have HX := Lib.hid hx
      clear hx
      by_cases hxc : x = c
      · subst hxc
        go_wp2_with fail
        go_ret
        exact ⟨_, rfl, by rw [inG_yes (by omega) HX.out]; exact decide_eq_true (by omega), rfl⟩
      · have hxb : (c == x) = false := by simpa using fun e => hxc e.symm
        have HXC := Lib.hid hxc
        clear hxc
        go_wp2_with fail
        go_round
        case rel => exact ⟨k + 1, by go_num, by omega, fun j hj => by
          rcases Nat.lt_succ_iff_lt_or_eq.1 hj with h1 | rfl
          · exact HNE.out j h1
          · rw [HX.out]; exact HXC.out⟩
        case measure => simp [intOf]; omega
    · obtain rfl : k = n := by omega
      go_wp2_with fail
      go_ret
      exact ⟨-1, rfl, by rw [inG_no (fun j hj => HNE.out j (by omega))]; rfl, rfl⟩

theorem implContains (A : Option Addr) (n cap B : Nat) (L : List Int) (c : Int) (b : Bool) (hb : inG L c = b) (w : World) (h : IntAt w B A n L) (hn : n ≤ 1000000000) :
    Calls Try.prog 63 #[.slice A n cap, .int .i64 c] w fun e w' => e = .returned (.bool b) ∧ w = w' := by
  have HC := Lib.hid (fun w h => implIndex A n cap B L c w h hn)
  have HI := Lib.hid h
  clear h
  go_enter Try.func63, Try.ntmps63
  go_wp2_with fail
  refine (HC.out _ HI.out).mono ?_
  rintro e w1 ⟨k, rfl, hk, rfl⟩
  rw [hb] at hk
  have HK := Lib.hid hk
  clear hk hb
  go_wp2_with fail
  go_ret
  exact ⟨ret_bool (by rw [← HK.out]), rfl⟩

theorem implConnects (W H : Int) (A : Option Addr) (n cap : Nat) (L : List Int) (c : Int) (b : Bool) (hcw : (Lit.int .i64 c).wf = true) (hb : hasChG W H L c = b) (w : World) (h : IntAt w w.heap.size A n L) (hn : n ≤ 1000000000) :
    Calls Try.prog 46 #[.agg #[.int .i64 W, .int .i64 H, .slice A n cap], .int .i64 c] w (RetB b w) := by
  obtain ⟨r, hr⟩ : ∃ r, endG W H c = r := ⟨_, rfl⟩
  have HE := Lib.hid (fun w => implEnd W H c r hcw hr w)
  have HI := Lib.hid h
  have hld := leads_end W H c
  rw [hr] at hld
  clear h hcw hr
  by_cases h0 : 0 ≤ r
  · obtain ⟨q, hq⟩ : ∃ q, inG L c = q := ⟨_, rfl⟩
    have hv : b = !q := by rw [← hb, hasChG, hld, decide_eq_true h0, hq]; rfl
    have HV := Lib.hid hv
    have hd : decide (r ≥ 0) = true := decide_eq_true h0
    have HF := Lib.hid (fun w h => implContains A n cap (w.heap.size) L c q hq w h hn)
    clear hv hld hb hq
    go_enter Try.func46, Try.ntmps46
    go_wp2_with fail
    refine (HE.out _).mono ?_
    rintro e w1 ⟨rfl, hg⟩
    have hbk := boxi_blk hg
    have a2 : w1.cell? ⟨w.heap.size, 2, none⟩ = some (.slice A n cap) := hbk.cell 2
    have hi := (HI.out.none (Nat.le_refl _) (boxi_gb hg)).more (B' := w1.heap.size) (boxi_gb hg).size
    have Hg := Lib.hid (boxi_gb hg)
    clear hg hbk
    go_wp2_with fail
    refine (HF.out _ hi).mono ?_
    rintro e w2 ⟨rfl, rfl⟩
    clear hi
    go_wp2_with fail
    go_ret
    exact ⟨ret_bool (by rw [HV.out]), Hg.out⟩
  · have hv : b = false := by rw [← hb, hasChG, hld, decide_eq_false h0]; rfl
    have hd : decide (r ≥ 0) = false := decide_eq_false h0
    have HV := Lib.hid hv
    clear hv hld hb
    go_enter Try.func46, Try.ntmps46
    go_wp2_with fail
    refine (HE.out _).mono ?_
    rintro e w1 ⟨rfl, hg⟩
    have Hg := Lib.hid (boxi_gb hg)
    clear hg
    go_wp2_with fail
    go_ret
    exact ⟨ret_bool (by rw [HV.out]), Hg.out⟩

theorem implMeshOk (W H : Int) (A : Option Addr) (n cap : Nat) (L : List Int) (hL : WfL L) (w : World) (h : IntAt w w.heap.size A n L) (hn : n ≤ 1000000000) :
    Calls Try.prog 22 #[.agg #[.int .i64 W, .int .i64 H, .slice A n cap]] w (RetB (meshG W H L) w) := by
  have hl := h.1
  have HI := Lib.hid h
  have HW := Lib.hid hL
  clear h hL
  cases hok : okG W H with
  | false =>
    go_enter Try.func22, Try.ntmps22
    go_wp2_with fail
    refine (implGridOk W H _).mono ?_
    rintro e w1 ⟨rfl, hg⟩
    rw [hok]
    go_wp2_with fail
    go_ret
    exact ⟨ret_bool (meshG_bad hok).symm, boxi_gb hg⟩
  | true =>
    go_enter Try.func22, Try.ntmps22
    go_wp2_with fail
    refine (implGridOk W H _).mono ?_
    rintro e w1 ⟨rfl, hg⟩
    have HM := Lib.hid (show MeshAt W H L A n cap w 0 w1 from ⟨goodTo_zero W H L, hg⟩)
    have hbk := boxi_blk hg
    have a2 : w1.cell? ⟨w.heap.size, 2, none⟩ = some (.slice A n cap) := hbk.cell 2
    clear hg hbk
    rw [hok]
    go_wp2_with fail
    clear a2
    go_loopw [12] (fun i wr => ∃ k : Nat, i = .int .i64 (k : Int) ∧ k ≤ n ∧ MeshAt W H L A n cap w k wr) (fun i _ => n - (intOf i).toNat)
    case atStart => exact ⟨0, rfl, Nat.zero_le _, HM.out⟩
    case round =>
      obtain ⟨k, rfl, hk, hgood, hg⟩ := hrel
      have HGo := Lib.hid hgood
      have HG := Lib.hid hg
      have hbk := boxi_blk hg
      have HBK := Lib.hid hbk
      have a0 : wr.cell? ⟨w.heap.size, 0, none⟩ = some (.int .i64 W) := hbk.cell 0
      have a1 : wr.cell? ⟨w.heap.size, 1, none⟩ = some (.int .i64 H) := hbk.cell 1
      have a2 : wr.cell? ⟨w.heap.size, 2, none⟩ = some (.slice A n cap) := hbk.cell 2
      have hia := HI.out.none (Nat.le_refl _) (boxi_gb hg)
      have HIA := Lib.hid hia
      clear hg hgood hbk
      by_cases hlt : k < n
      · obtain ⟨b, off, rfl, hb, hc⟩ := hia.at k hlt
        obtain ⟨x, hx⟩ : ∃ x, L.getD k 0 = x := ⟨_, rfl⟩
        rw [hx] at hc
        obtain ⟨r, hr⟩ : ∃ r, endG W H x = r := ⟨_, rfl⟩
        have HE := Lib.hid (fun w => implEnd W H x r (HW.out.get (by omega) hx) hr w)
        have hld := leads_end W H x
        rw [hr] at hld
        clear hia hr
        by_cases h0 : r < 0
        · have hbad := meshG_no (L := L) (i := k) (by omega) (goodAt_lead hx (by rw [hld]; exact decide_eq_false (by omega)))
          have HBad := Lib.hid hbad
          clear hx hld hbad
          go_wp2_with fail
          refine (HE.out _).mono ?_
          rintro e w2 ⟨rfl, hg2⟩
          have HG2 := Lib.hid (gb_trans (boxi_gb HG.out) hg2)
          clear hg2
          go_wp2_with fail
          go_ret
          exact ⟨ret_bool HBad.out.symm, HG2.out⟩
        · have hldt : leadsG W H x = true := by rw [hld]; exact decide_eq_true (by omega)
          clear hld
          cases k with
          | zero =>
            have HNx := Lib.hid (goodTo_succ HGo.out (goodAt_first hx hldt))
            have hc' : wr.cell? ⟨b, off, none⟩ = some (.int .i64 x) := hc
            clear hx hldt hc
            go_wp2_with fail
            refine (HE.out _).mono ?_
            rintro e w2 ⟨rfl, hg2⟩
            have HG2 := Lib.hid (gb_trans HG.out hg2)
            clear hg2
            go_wp2_with fail
            go_roundw
            case rel => exact ⟨1, by go_num, by omega, HNx.out, HG2.out⟩
            case measure => simp [intOf] <;> omega
          | succ j =>
            obtain ⟨b', off', hbe, _, hc2⟩ := HIA.out.at j (by omega)
            obtain ⟨rfl, rfl⟩ : b = b' ∧ off = off' := by injection hbe with h1; injection h1 with h2 h3; exact ⟨h2, h3⟩
            obtain ⟨y, hy⟩ : ∃ y, L.getD j 0 = y := ⟨_, rfl⟩
            rw [hy] at hc2
            have hga := goodAt_next hx hy hldt
            have HGA := Lib.hid hga
            clear hx hy hldt hga hbe
            go_wp2_with fail
            refine (HE.out _).mono ?_
            rintro e w2 ⟨rfl, hg2⟩
            have dc := hg2.cell hc (by simp)
            have dc2 := hg2.cell hc2 (by simp)
            have d2 := hg2.cell a2 (by simp)
            have HG2 := Lib.hid (gb_trans HG.out hg2)
            clear hg2 hc hc2 a0 a1 a2
            by_cases hyx : y < x
            · have hge : decide (y ≥ x) = false := decide_eq_false (by omega)
              have HNx := Lib.hid (goodTo_succ HGo.out (HGA.out.trans (decide_eq_true hyx)))
              clear hyx
              go_wp2_with fail
              go_roundw
              case rel => exact ⟨j + 2, by go_num, by omega, HNx.out, HG2.out⟩
              case measure => simp [intOf] <;> omega
            · have hge : decide (y ≥ x) = true := decide_eq_true (by omega)
              have HBad := Lib.hid (meshG_no (i := j + 1) (by omega) (HGA.out.trans (decide_eq_false hyx)))
              clear hyx
              go_wp2_with fail
              go_ret
              exact ⟨ret_bool HBad.out.symm, boxi_gb HG2.out⟩
      · obtain rfl : k = n := by omega
        clear hia
        go_wp2_with fail
        go_ret
        exact ⟨ret_bool (meshG_yes hok (by rw [hl]; exact HGo.out)).symm, boxi_gb HG.out⟩

theorem implMeshOkV (W H : Int) (A : Option Addr) (n cap : Nat) (L : List Int) (b : Bool) (hb : meshG W H L = b) (hL : WfL L) (w : World) (h : IntAt w w.heap.size A n L) (hn : n ≤ 1000000000) :
    Calls Try.prog 22 #[.agg #[.int .i64 W, .int .i64 H, .slice A n cap]] w (RetB b w) := hb ▸ implMeshOk W H A n cap L hL w h hn

theorem implHasChannel (W H : Int) (A : Option Addr) (n cap : Nat) (L : List Int) (c : Int) (hL : WfL L) (hcw : (Lit.int .i64 c).wf = true) (w : World) (h : IntAt w w.heap.size A n L) (hn : n ≤ 1000000000) :
    Calls Try.prog 20 #[.agg #[.int .i64 W, .int .i64 H, .slice A n cap], .int .i64 c] w (RetB (hasChannelG W H L c) w) := by
  have h0 : IntAt (w.alloc (.cells (meshC W H A n cap) 33)) (w.alloc (.cells (meshC W H A n cap) 33)).heap.size A n L := (h.none (Nat.le_refl _) (gb_alloc (gb_refl _ _) _)).more (by simp)
  have HI := Lib.hid h
  have H0 := Lib.hid h0
  clear h h0
  obtain ⟨b, hb⟩ : ∃ b, hasChG W H L c = b := ⟨_, rfl⟩
  have HC := Lib.hid (fun w h => implConnects W H A n cap L c b hcw hb w h hn)
  cases hm : meshG W H L with
  | false =>
    have HK := Lib.hid (fun w h => implMeshOkV W H A n cap L false hm hL w h hn)
    have HR := Lib.hid (show hasChannelG W H L c = false by simp [hasChannelG, hm])
    clear hm hb hL hcw
    go_enter Try.func20, Try.ntmps20
    go_wp2_with fail
    refine (HK.out _ H0.out).mono ?_
    rintro e w1 ⟨rfl, hg⟩
    have Hg := Lib.hid (boxi_gb hg)
    clear hg
    go_wp2_with fail
    go_ret
    exact ⟨ret_bool HR.out.symm, Hg.out⟩
  | true =>
    have HK := Lib.hid (fun w h => implMeshOkV W H A n cap L true hm hL w h hn)
    have HR := Lib.hid (show hasChannelG W H L c = b by simp [hasChannelG, hm, hb])
    clear hm hb hL hcw
    go_enter Try.func20, Try.ntmps20
    go_wp2_with fail
    refine (HK.out _ H0.out).mono ?_
    rintro e w1 ⟨rfl, hg⟩
    have hbk := boxi_blk hg
    have a0 : w1.cell? ⟨w.heap.size, 0, none⟩ = some (.int .i64 W) := hbk.cell 0
    have a1 : w1.cell? ⟨w.heap.size, 1, none⟩ = some (.int .i64 H) := hbk.cell 1
    have a2 : w1.cell? ⟨w.heap.size, 2, none⟩ = some (.slice A n cap) := hbk.cell 2
    have hi := (HI.out.none (Nat.le_refl _) (boxi_gb hg)).more (B' := w1.heap.size) (boxi_gb hg).size
    have Hg := Lib.hid (boxi_gb hg)
    clear hg hbk
    go_wp2_with fail
    refine (HC.out _ hi).mono ?_
    rintro e w2 ⟨rfl, hg2⟩
    have Hg2 := Lib.hid (gb_trans Hg.out hg2)
    clear hi hg2
    go_wp2_with fail
    go_ret
    exact ⟨ret_bool HR.out.symm, Hg2.out⟩

theorem implChannels (W H : Int) (A : Option Addr) (n cap : Nat) (L : List Int) (hL : WfL L) (w : World) (h : IntAt w w.heap.size A n L) (hn : n ≤ 1000000000) :
    Calls Try.prog 19 #[.agg #[.int .i64 W, .int .i64 H, .slice A n cap]] w (NewI (chansG W H L) w) := by
  obtain ⟨i0, hi, hz0, hz1, hz2⟩ := info_parts info_int
  have h0 : IntAt (w.alloc (.cells (meshC W H A n cap) 33)) (w.alloc (.cells (meshC W H A n cap) 33)).heap.size A n L := (h.none (Nat.le_refl _) (gb_alloc (gb_refl _ _) _)).more (by simp)
  have HI := Lib.hid h
  have H0 := Lib.hid h0
  clear h h0
  have hs1 : (w.alloc (.cells (meshC W H A n cap) 33)).heap.size = w.heap.size + 1 := by simp
  have HS1 := Lib.hid hs1
  clear hs1
  cases hm : meshG W H L with
  | false =>
    have HK := Lib.hid (fun w h => implMeshOkV W H A n cap L false hm hL w h hn)
    have HR := Lib.hid (show chansG W H L = [] by simp [chansG, hm])
    clear hm hL
    go_enter Try.func19, Try.ntmps19
    go_wp2_with fail
    refine (HK.out _ H0.out).mono ?_
    rintro e w1 ⟨rfl, hg⟩
    have Hg := Lib.hid (boxi_gb hg)
    clear hg
    go_wp2_with fail
    go_ret
    refine ⟨_, rfl, ?_, gb_below_none Hg.out (Nat.le_refl _)⟩
    rw [HR.out]
    exact World.ownsRow_nil _ _ _ _
  | true =>
    have HK := Lib.hid (fun w h => implMeshOkV W H A n cap L true hm hL w h hn)
    obtain ⟨cn, hcn⟩ : ∃ k, countG W H = k := ⟨_, rfl⟩
    have HR := Lib.hid (show chansG W H L = chansTo W H L (4 * cn).toNat by simp [chansG, hm, hcn])
    obtain ⟨hc0, hc1⟩ := countG_le W H
    rw [hcn] at hc0 hc1
    have HN := Lib.hid (fun w => show Calls Try.prog 45 #[.agg #[.int .i64 W, .int .i64 H]] w (RetI cn none w) from hcn ▸ implNodeCount W H w)
    clear hm hL hcn
    go_enter Try.func19, Try.ntmps19
    go_wp2_with fail
    refine (HK.out _ H0.out).mono ?_
    rintro e w1 ⟨rfl, hg⟩
    have hbk := boxi_blk hg
    have a0 : w1.cell? ⟨w.heap.size, 0, none⟩ = some (.int .i64 W) := hbk.cell 0
    have a1 : w1.cell? ⟨w.heap.size, 1, none⟩ = some (.int .i64 H) := hbk.cell 1
    have Hg := Lib.hid hg
    clear hg hbk
    go_wp2_with fail
    refine (HN.out _).mono ?_
    rintro e w2 ⟨rfl, hg2⟩
    have hg3 := gb_trans Hg.out hg2
    have HX := Lib.hid (show ChanAt W H L A n cap w 0 (.slice none 0 0) w2 from ⟨World.ownsRow_nil _ _ _ _, gb_below_none hg3 (by rw [HS1.out]; exact Nat.le_refl _)⟩)
    clear hg2 hg3 a0 a1
    go_wp2_with fail
    go_loopw [3, 12] (fun v i wr => ∃ k : Nat, i = .int .i64 (k : Int) ∧ (k : Int) ≤ 4 * cn ∧ ChanAt W H L A n cap w k v wr) (fun _ i _ => 64 - (intOf i).toNat)
    case atStart => exact ⟨0, rfl, by omega, HX.out⟩
    case round =>
      obtain ⟨k, rfl, hk, hown, hbel⟩ := hrel
      have HBel := Lib.hid hbel
      have HOwn := Lib.hid hown
      have hbk := (Blk.new w 33 (meshC W H A n cap)).below hbel (by omega)
      have HBK := Lib.hid hbk
      have a0 : wr.cell? ⟨w.heap.size, 0, none⟩ = some (.int .i64 W) := hbk.cell 0
      have a1 : wr.cell? ⟨w.heap.size, 1, none⟩ = some (.int .i64 H) := hbk.cell 1
      have a2 : wr.cell? ⟨w.heap.size, 2, none⟩ = some (.slice A n cap) := hbk.cell 2
      have hsw : w.heap.size + 1 ≤ wr.heap.size := by have h1 := hbel.size; rw [HS1.out] at h1; exact h1
      have hi2 := (HI.out.below (below_box hbel)).more (B' := wr.heap.size) (by omega)
      have hkn : k ≤ 64 := by omega
      have hkw : (Lit.int .i64 (k : Int)).wf = true := WalkArith.wf_i64 (by omega)
      clear hbel hown hbk
      by_cases hlt : (k : Int) < 4 * cn
      · cases hc : hasChG W H L (k : Int) with
        | false =>
          have HC := Lib.hid (fun w h => implConnects W H A n cap L k false hkw hc w h hn)
          have HE := Lib.hid (chansTo_no hc)
          clear hc hkw
          go_wp2_with fail
          refine (HC.out _ hi2).mono ?_
          rintro e w3 ⟨rfl, hg3⟩
          have HG3 := Lib.hid hg3
          clear hg3 hi2
          go_wp2_with fail
          go_roundw
          case rel => exact ⟨k + 1, by go_num, by omega, by rw [HE.out]; exact own_none HOwn.out HG3.out, below_gb HBel.out (by rw [HS1.out]; exact Nat.le_refl _) HG3.out⟩
          case measure => simp [intOf]; omega
        | true =>
          have HC := Lib.hid (fun w h => implConnects W H A n cap L k true hkw hc w h hn)
          have HE := Lib.hid (chansTo_yes hc)
          clear hc hkw
          go_wp2_with fail
          refine (HC.out _ hi2).mono ?_
          rintro e w3 ⟨rfl, hg3⟩
          have HG3 := Lib.hid hg3
          have hown1 := own_none HOwn.out HG3.out
          have hsz1 : w.heap.size + 1 ≤ w3.heap.size := Nat.le_trans hsw HG3.out.size
          have hlen := chansTo_le W H L k
          have b3' := Lib.hid (show ∀ u ∈ [Value.int .i64 (k : Int)], u.oneCell' = true by simp [Value.oneCell'])
          have b4' := Lib.hid (show (chansTo W H L k).length + 1 ≤ maxLen by unfold maxLen; omega)
          clear hg3 hi2 a0 a1 a2
          go_wp2_with (at_builtin; refine wpList_append_own _ rfl _ _ 27 rfl (w.heap.size + 1) 3 i0 (.int .i64 0) 1 8 Try.underlying27 hi hz0 hz1 hz2 rfl (by decide) _ (chansTo W H L k).length _ rfl (hown1.alloc _) ⟨w3.heap.size, 0, none⟩ 1 1 [.int .i64 (k : Int)] rfl rfl (World.news_of_block (cs := #[.int .i64 (k : Int)]) (t := 3) (fr := (0, 0)) (heap_alloc_new w3 _)) b3'.out b4'.out (by omega) (by simp; omega) ?_; intro v' w4 hown4 hgrow4 _)
          have X : ChanAt W H L A n cap w (k + 1) v' w4 := by
            refine ⟨by rw [HE.out, List.length_append, intsV_append]; exact hown4, ?_⟩
            have hb3 := below_gb HBel.out (by rw [HS1.out]; exact Nat.le_refl _) HG3.out
            exact (hb3.alloc hsz1 _).grown hgrow4 (by simp; omega) (fun j hj => (hown1.lt j hj).1)
          have HX4 := Lib.hid X
          clear X hown4 hgrow4 hown1
          go_wp2_with fail
          go_roundw
          case rel => exact ⟨k + 1, by go_num, by omega, HX4.out⟩
          case measure => simp [intOf]; omega
      · have hkk : (4 * cn).toNat = k := by omega
        have HKK := Lib.hid hkk
        clear hkk hi2
        go_wp2_with fail
        go_ret
        refine ⟨u3, rfl, ?_, below_box HBel.out⟩
        rw [HR.out, HKK.out]
        exact own_less HOwn.out (by omega)
end Go.Proofs.Ytidcmoflnimkiaa
