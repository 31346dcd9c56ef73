/- What is proved here: the law on flits answers true, for every draw; only new blocks are written. -/
import Derived.Test.YtcjidpegmlbenaaDrawPc
import Derived.Test.YtcjidpegmlbenaaDrawPlaces
import Derived.Test.YtcjidpegmlbenaaBig
import Derived.Test.YtcjidpegmlbenaaRecC
import Derived.Test.YtcjidpegmlbenaaPkI
import Derived.Test.YtcjidpegmlbenaaWhI
namespace Go.Proofs.Ytcjidpegmlbenaa
open Go.ChangeShapes Go.WideShapes Go.ChangeAt Go.RowKit
set_option linter.unusedVariables false
set_option maxRecDepth 20000

theorem flits_at {p : Pkt} {m i : Nat} (h : i < m) : atF (flitsTo p m) i = flitAt p i := atF_of (flitsTo_at h)
theorem flits_whole {p : Pkt} {m : Nat} (hm : p.ln = (m : Int)) (h1 : 1 ≤ m) : wholeG (flitsTo p m) = true := by
  refine whole_yes (by rw [flitsTo_length]; exact h1) fun i hi => ?_
  rw [flitsTo_length] at hi
  rw [wholeAt, flits_at hi, flits_at (show 0 < m by omega), flitsTo_length]
  refine decide_eq_true ⟨rfl, rfl, rfl, rfl, ?_⟩
  exact decide_eq_decide.2 (by rw [hm]; omega)
theorem take_at {D : List Flt} {k i : Nat} (h : i < k) : atF (D.take k) i = atF D i := by
  simp [atF, List.getD_eq_getElem?_getD, List.getElem?_take_of_lt h]
theorem drop_at {D : List Flt} {k i : Nat} : atF (D.drop k) i = atF D (k + i) := by
  simp [atF, List.getD_eq_getElem?_getD, List.getElem?_drop]
theorem flits_take {p : Pkt} {m k : Nat} (hm : p.ln = (m : Int)) (hk : k < m) : wholeG ((flitsTo p m).take k) = false := by
  rcases Nat.eq_zero_or_pos k with h0 | h0
  · subst h0; rfl
  · have hl : ((flitsTo p m).take k).length = k := by rw [List.length_take, flitsTo_length]; omega
    refine whole_no (i := k - 1) (by rw [hl]; omega) ?_
    rw [wholeAt, take_at (show k - 1 < k by omega), flits_at (show k - 1 < m by omega), hl]
    refine decide_eq_false fun h => ?_
    have h5 := h.2.2.2.2
    have e1 : (flitAt p (k - 1)).tl = false := decide_eq_false (by rw [hm]; omega)
    have e2 : decide (k - 1 + 1 = k) = true := decide_eq_true (by omega)
    rw [e1, e2] at h5
    cases h5
theorem flits_drop {p : Pkt} {m k : Nat} (h0 : 0 < k) (hk : k < m) : wholeG ((flitsTo p m).drop k) = false := by
  have hl : ((flitsTo p m).drop k).length = m - k := by rw [List.length_drop, flitsTo_length]
  refine whole_no (i := 0) (by rw [hl]; omega) ?_
  rw [wholeAt, drop_at, Nat.add_zero, flits_at hk]
  refine decide_eq_false fun h => ?_
  have h4 := h.2.2.2.1
  have e1 : (flitAt p k).hd = false := decide_eq_false (by omega)
  rw [e1] at h4
  cases h4
theorem flits_tails {p : Pkt} {m : Nat} (hm : p.ln = (m : Int)) (h1 : 1 ≤ m) : tailsN (flitsTo p m) = 1 := by
  have key : ∀ k, k ≤ m → tailsN (flitsTo p k) = if k = m then 1 else 0 := by
    intro k
    induction k with
    | zero => intro _; rw [if_neg (by omega)]; rfl
    | succ k ih =>
      intro hk
      rw [flitsTo_next, tailsN, List.filter_append, List.length_append]
      have h2 := ih (by omega)
      rw [tailsN, if_neg (by omega)] at h2
      rw [h2]
      by_cases e : k + 1 = m
      · have ht : (flitAt p k).tl = true := decide_eq_true (by rw [hm]; omega)
        rw [if_pos e, List.filter_cons_of_pos ht]
        rfl
      · have ht : (flitAt p k).tl = false := decide_eq_false (by rw [hm]; omega)
        rw [if_neg e, List.filter_cons_of_neg (by rw [ht]; simp)]
        rfl
  rw [key m (Nat.le_refl _), if_pos rfl]
theorem modF {x : Int} (h : 0 ≤ x) {n : Nat} (hn : 0 < n) : ∃ y : Nat, Int.tmod x (n : Int) = (y : Int) ∧ y < n := by
  have h1 := Int.emod_nonneg x (show (n : Int) ≠ 0 by omega)
  have h2 := Int.emod_lt_of_pos x (show (0 : Int) < (n : Int) by omega)
  refine ⟨(Int.tmod x n).toNat, ?_, ?_⟩ <;> rw [Int.tmod_eq_emod_of_nonneg h] <;> omega
/-- The drawn grid, the drawn packet and its flits as they are. -/
structure FlAt (W H : Int) (p : Pkt) (b1 b2 m gf c : Nat) (D : List Flt) (w wr : World) : Prop where
  g : Blk wr b1 25 #[.int .i64 W, .int .i64 H]
  p : Blk wr b2 27 #[.int .i64 p.id, .int .i64 p.fr, .int .i64 p.to, .int .i64 p.cl, .int .i64 p.ln]
  o : wr.ownsRow w.heap.size 39 5 (.slice (some ⟨gf, 0, none⟩) m c) m (recV fltC D)
  lb : Below w.heap.size w wr
section
variable {W H : Int} {p : Pkt} {b1 b2 m gf c : Nat} {D : List Flt} {w wr w' : World}
theorem FlAt.gb (h : FlAt W H p b1 b2 m gf c D w wr) (hg : wr.grownBy w' none) : FlAt W H p b1 b2 m gf c D w w' := ⟨h.g.grown hg (by simp), h.p.grown hg (by simp), own_none h.o hg, below_gb h.lb (Nat.le_refl _) hg⟩
theorem FlAt.dr (h : FlAt W H p b1 b2 m gf c D w wr) : FlAt W H p b1 b2 m gf c D w wr.drew := h.gb (gb_drew (gb_refl wr none))
end
set_option maxHeartbeats 3200000 in
theorem walk_FnFlits (A : Option Addr) (n cap : Nat) (w : World) (hr : ByteRow w w.heap.size A n) :
    Calls Try.prog 3 #[.slice A n cap] w fun e w' => e = .returned (.bool true) ∧ Below w.heap.size w w' := by
  by_cases hbig : 1048576 < n
  · go_enter Try.func3, Try.ntmps3
    go_wp2_with fail
    refine (lawsBig A n cap _).mono ?_
    rintro e w1 ⟨rfl, rfl⟩
    rw [decide_eq_true hbig]
    go_wp2_with fail
    go_ret
    exact ⟨rfl, Below.refl _ _⟩
  · have HR := Lib.hid hr
    have hn : n ≤ 1048576 := by omega
    clear hr
    go_enter Try.func3, Try.ntmps3
    go_wp2_with fail
    refine (lawsBig A n cap _).mono ?_
    rintro e w1 ⟨rfl, rfl⟩
    rw [decide_eq_false hbig]
    go_wp2_with fail
    refine (drawPacket A n cap _ HR.out hn).mono ?_
    rintro e w2 ⟨W, H, p, rfl, hok, hpk, hb2⟩
    have hln := (pktOk_iff.1 hpk).2.2.2.2.2
    obtain ⟨m, hm⟩ : ∃ m : Nat, p.ln = (m : Int) := ⟨p.ln.toNat, by omega⟩
    have hm1 : 1 ≤ m := by omega
    have hm5 : m ≤ 5 := by omega
    have HM := Lib.hid hm
    have HFO := Lib.hid (fun w => implFlitsOf W H p w)
    rw [flitsG_yes hpk, hm, Int.toNat_natCast] at HFO
    have HPO := Lib.hid (fun w => show Calls Try.prog 13 #[.agg #[.int .i64 W, .int .i64 H], .agg #[.int .i64 p.id, .int .i64 p.fr, .int .i64 p.to, .int .i64 p.cl, .int .i64 p.ln]] w (RetB true w) by have h := implPacketOk W H p w; rw [hpk] at h; exact h)
    have HW1 := Lib.hid (flits_whole hm hm1)
    have HW2 := Lib.hid (fun k (hk : k < m) => flits_take hm hk)
    have HW3 := Lib.hid (fun k (h0 : 0 < k) (hk : k < m) => flits_drop (p := p) h0 hk)
    have HTL := Lib.hid (flits_tails hm hm1)
    have HF0 := Lib.hid (show (flitsTo p m)[0]? = some (flitAt p 0) from flitsTo_at (by omega))
    have HSM := Lib.hid (show sameF (flitsTo p m) (flitsTo p m) = true from decide_eq_true rfl)
    have HDL := Lib.hid (flitsTo_length p m)
    obtain ⟨D, hD⟩ : ∃ D, flitsTo p m = D := ⟨_, rfl⟩
    rw [hD] at HFO HW1 HW2 HW3 HTL HF0 HSM HDL
    have HB2 := Lib.hid hb2
    have HBG := Lib.hid ((Blk.new w2 25 #[.int .i64 W, .int .i64 H]).alloc (.cells #[.int .i64 p.id, .int .i64 p.fr, .int .i64 p.to, .int .i64 p.cl, .int .i64 p.ln] 27))
    have hbp := Blk.new (w2.alloc (.cells #[.int .i64 W, .int .i64 H] 25)) 27 #[.int .i64 p.id, .int .i64 p.fr, .int .i64 p.to, .int .i64 p.cl, .int .i64 p.ln]
    rw [alloc_size] at hbp
    have HBP := Lib.hid hbp
    have HGA := Lib.hid (gb_alloc (gb_alloc (gb_refl w2 none) (.cells #[.int .i64 W, .int .i64 H] 25)) (.cells #[.int .i64 p.id, .int .i64 p.fr, .int .i64 p.to, .int .i64 p.cl, .int .i64 p.ln] 27))
    clear hok hpk hln hm hD hb2 hbp
    go_wp2_with fail
    refine (HFO.out _).mono ?_
    rintro e w3 ⟨v3, rfl, o3, b3⟩
    rw [HDL.out] at o3
    obtain ⟨A3, c3, rfl, hA3⟩ := own_form o3
    obtain ⟨gf, rfl⟩ := hA3 (by omega)
    have hcap := own_cap o3
    have X3 := Lib.hid (show FlAt W H p w2.heap.size (w2.heap.size + 1) m gf c3 D w w3 from ⟨HBG.out.grown (gb_of_below b3 none) (by simp), HBP.out.grown (gb_of_below b3 none) (by simp), own_less o3 (Nat.le_trans HB2.out.size HGA.out.size), ((HB2.out.grown HGA.out HB2.out.size (fun j e => by cases e)).trans (b3.mono (Nat.le_trans HB2.out.size HGA.out.size)))⟩)
    obtain ⟨b1, hb1⟩ : ∃ b, w2.heap.size = b := ⟨_, rfl⟩
    rw [hb1] at X3 ⊢
    obtain ⟨b2, hb2⟩ : ∃ b, b1 + 1 = b := ⟨_, rfl⟩
    rw [hb2] at X3
    have HRW := Lib.hid (show ByteRow w3 w3.heap.size A n from (HR.out.keep fun q hq => World.cell?_of_block (X3.out.lb.block q.block hq)).more X3.out.lb.size)
    clear o3 b3 hA3 hb1
    (try rw [HDL.out])
    go_wp2_with fail
    (try rw [hb2])
    refine (drawPlaces A n cap _ HRW.out hn).mono ?_
    rintro e w4 ⟨pb, c4, l, rfl, hl, hlb, hlc, hb4⟩
    have X4 := Lib.hid (X3.out.gb (gb_of_below hb4 none))
    obtain ⟨x0, hx0⟩ : ∃ x, l[0]? = some x := ⟨_, List.getElem?_eq_getElem (by omega)⟩
    obtain ⟨k, hk, hkm⟩ := modF (hlb x0 (List.mem_of_getElem? hx0)).1 (n := m) (by omega)
    have p0 := hlc 0 x0 hx0
    have q4 : w4.cell? ⟨b2, 4, none⟩ = some (.int .i64 p.ln) := X4.out.p.cell 4
    have e1 : ((m : Int) != p.ln) = false := by rw [HM.out]; simp
    have e2 : IntKind.i64.wrap (k : Int) = (k : Int) := IntWalk.i64_in _ (by omega)
    have q0 : ((m : Int) == 0) = false := by simp; omega
    have q1 : ¬ (m : Int) = 0 := by omega
    have q2 : ¬ m = 0 := by omega
    clear hl hlb hlc hb4 hx0 hb2
    go_wp2_with fail
    have KP := Lib.hid (fun (w' : World) (h : FlAt W H p b1 b2 m gf c3 D w w') => (show w'.cell? ⟨b1, 0, none⟩ = some (.int .i64 W) ∧ w'.cell? ⟨b1, 1, none⟩ = some (.int .i64 H) ∧ w'.cell? ⟨b2, 0, none⟩ = some (.int .i64 p.id) ∧ w'.cell? ⟨b2, 1, none⟩ = some (.int .i64 p.fr) ∧ w'.cell? ⟨b2, 2, none⟩ = some (.int .i64 p.to) ∧ w'.cell? ⟨b2, 3, none⟩ = some (.int .i64 p.cl) ∧ w'.cell? ⟨b2, 4, none⟩ = some (.int .i64 p.ln) ∧ w'.cell? ⟨gf, 0, none⟩ = some (.int .i64 p.id) from ⟨h.g.cell 0, h.g.cell 1, h.p.cell 0, h.p.cell 1, h.p.cell 2, h.p.cell 3, h.p.cell 4, by have h9 := rec_cell fltL h.o HF0.out (j := 0) rfl; rw [Nat.zero_mul] at h9; exact h9⟩))
    have HDA := Lib.hid (fun (w' : World) (h : FlAt W H p b1 b2 m gf c3 D w w') => (show RecAt 5 fltC w' w'.heap.size (some ⟨gf, 0, none⟩) m D from recAt_own fltL (by decide) h.o (Nat.le_refl _)))
    have CW1 := Lib.hid (fun w h => show Calls Try.prog 14 #[.slice (some ⟨gf, 0, none⟩) m c3] w (RetB true w) by have h9 := implIsWhole (some ⟨gf, 0, none⟩) m c3 D w h (by omega); rw [HW1.out] at h9; exact h9)
    have CW2 := Lib.hid (fun (w : World) (h : RecAt 5 fltC w w.heap.size (some ⟨gf, 0, none⟩) m D) => show Calls Try.prog 14 #[.slice (some ⟨gf, 0, none⟩) k c3] w (RetB false w) by have h9 := implIsWhole (some ⟨gf, 0, none⟩) k c3 (D.take k) w (h.take (by omega)) (by omega); rw [HW2.out k hkm] at h9; exact h9)
    have CCP := Lib.hid (fun w h => show Calls Try.prog 15 #[.slice (some ⟨gf, 0, none⟩) m c3] w (RetI 1 none w) by have h9 := implCountPackets (some ⟨gf, 0, none⟩) m c3 D w h (by omega); rw [HTL.out] at h9; exact h9)
    have CSF := Lib.hid (fun w h => show Calls Try.prog 16 #[.slice (some ⟨gf, 0, none⟩) m c3, .slice (some ⟨gf, 0, none⟩) m c3] w (RetB true w) by have h9 := implSameFlits (some ⟨gf, 0, none⟩) (some ⟨gf, 0, none⟩) m c3 m c3 D D w h h (by omega) (by omega); rw [HSM.out] at h9; exact h9)
    have hkc : k ≤ c3 := by omega
    have hkc2 : (k : Int) ≤ (c3 : Int) := by omega
    have hkm2 : (k : Int) ≤ (m : Int) := by omega
    have hkz : (0 : Int) ≤ (k : Int) := by omega
    have hnc : ¬ c3 = k := by omega
    have z0 : (0 : Int) < (m : Int) := by omega
    have z1 : 0 < m := by omega
    have hle : k ≤ m := by omega
    by_cases hk0 : k = 0
    · subst hk0
      have hk1 : (((0 : Nat) : Int) == 0) = true := rfl
      clear p0 q4
      refine wp_region_held_drew (S := (fun w' => w'.cell? ⟨b1, 0, none⟩ = some (.int .i64 W) ∧ w'.cell? ⟨b1, 1, none⟩ = some (.int .i64 H) ∧ w'.cell? ⟨b2, 0, none⟩ = some (.int .i64 p.id) ∧ w'.cell? ⟨b2, 1, none⟩ = some (.int .i64 p.fr) ∧ w'.cell? ⟨b2, 2, none⟩ = some (.int .i64 p.to) ∧ w'.cell? ⟨b2, 3, none⟩ = some (.int .i64 p.cl) ∧ w'.cell? ⟨b2, 4, none⟩ = some (.int .i64 p.ln) ∧ w'.cell? ⟨gf, 0, none⟩ = some (.int .i64 p.id))) (by kernel_rfl) (KP.out _ X4.out.dr) (fun hHeld => ?_)
      refine wpAnyH_take (i := 0) (v := ?_) rfl (by kernel_rfl) (by kernel_rfl) (by kernel_rfl) (fun _ _ _ h => h) (Or.inl ⟨by rfl, ?_⟩) (by assumption) ?_
      rotate_left
      · intro wq hSw; (try dsimp only at hSw); go_simp; (try with_reducible rfl)
      simp only [List.getElem_toArray, List.getElem_cons_zero, Act.put, List.setIfInBounds_toArray, List.set_cons_zero, List.set_cons_succ]
      refine wpAnyH_take (i := 1) (v := ?_) rfl (by kernel_rfl) (by kernel_rfl) (by kernel_rfl) (fun _ _ _ h => h) (Or.inl ⟨by rfl, ?_⟩) (by assumption) ?_
      rotate_left
      · intro wq hSw; (try dsimp only at hSw); go_simp; (try with_reducible rfl)
      simp only [List.getElem_toArray, List.getElem_cons_succ, List.getElem_cons_zero, Act.put, List.setIfInBounds_toArray, List.set_cons_zero, List.set_cons_succ]
      refine wpAnyH_ready (rs := [2]) (by kernel_rfl) (by simp) ?_
      refine AllReadyH.cons rfl (fun K hK => ?_) AllReadyH.nil
      go_simp
      refine (HPO.out _).mono ?_; rintro e wa ⟨rfl, ga⟩; have Xa := Lib.hid (X4.out.dr.gb ga); clear ga
      try go_wp2_with fail
      refine hK.out _ _ (KP.out _ Xa.out) (fun hHeld => ?_)
      clear hK K
      try simp only [List.getElem_toArray, List.getElem_cons_succ, List.getElem_cons_zero, Act.put, List.setIfInBounds_toArray, List.set_cons_zero, List.set_cons_succ]
      refine wpAnyH_take (i := 3) (v := ?_) rfl (by kernel_rfl) (by kernel_rfl) (by kernel_rfl) (fun _ _ _ h => h) (Or.inl ⟨by rfl, ?_⟩) (by assumption) ?_
      rotate_left
      · intro wq hSw; (try dsimp only at hSw); go_simp; (try with_reducible rfl)
      simp only [List.getElem_toArray, List.getElem_cons_succ, List.getElem_cons_zero, Act.put, List.setIfInBounds_toArray, List.set_cons_zero, List.set_cons_succ]
      refine wpAnyH_take (i := 4) (v := ?_) rfl (by kernel_rfl) (by kernel_rfl) (by kernel_rfl) (fun _ _ _ h => h) (Or.inl ⟨by rfl, ?_⟩) (by assumption) ?_
      rotate_left
      · intro wq hSw; (try dsimp only at hSw); go_simp; (try with_reducible rfl)
      simp only [List.getElem_toArray, List.getElem_cons_succ, List.getElem_cons_zero, Act.put, List.setIfInBounds_toArray, List.set_cons_zero, List.set_cons_succ]
      refine wpAnyH_ready (rs := [5]) (by kernel_rfl) (by simp) ?_
      refine AllReadyH.cons rfl (fun K hK => ?_) AllReadyH.nil
      go_simp
      refine (CW1.out _ (HDA.out _ Xa.out)).mono ?_; rintro e wb ⟨rfl, gb⟩; have Xb := Lib.hid (Xa.out.gb gb); clear gb
      try go_wp2_with fail
      refine hK.out _ _ (KP.out _ Xb.out) (fun hHeld => ?_)
      clear hK K
      try simp only [List.getElem_toArray, List.getElem_cons_succ, List.getElem_cons_zero, Act.put, List.setIfInBounds_toArray, List.set_cons_zero, List.set_cons_succ]
      refine wpAnyH_take (i := 6) (v := ?_) rfl (by kernel_rfl) (by kernel_rfl) (by kernel_rfl) (fun _ _ _ h => h) (Or.inl ⟨by rfl, ?_⟩) (by assumption) ?_
      rotate_left
      · intro wq hSw; (try dsimp only at hSw); go_simp; (try with_reducible rfl)
      simp only [List.getElem_toArray, List.getElem_cons_succ, List.getElem_cons_zero, Act.put, List.setIfInBounds_toArray, List.set_cons_zero, List.set_cons_succ]
      refine wpAnyH_take (i := 7) (v := ?_) rfl (by kernel_rfl) (by kernel_rfl) (by kernel_rfl) (fun _ _ _ h => h) (Or.inl ⟨by rfl, ?_⟩) (by assumption) ?_
      rotate_left
      · intro wq hSw; (try dsimp only at hSw); go_simp; (try with_reducible rfl)
      simp only [List.getElem_toArray, List.getElem_cons_succ, List.getElem_cons_zero, Act.put, List.setIfInBounds_toArray, List.set_cons_zero, List.set_cons_succ]
      refine wpAnyH_take (i := 8) (v := ?_) rfl (by kernel_rfl) (by kernel_rfl) (by kernel_rfl) (fun _ _ _ h => h) (Or.inl ⟨by rfl, ?_⟩) (by assumption) ?_
      rotate_left
      · intro wq hSw; (try dsimp only at hSw); go_simp; (try with_reducible rfl)
      simp only [List.getElem_toArray, List.getElem_cons_succ, List.getElem_cons_zero, Act.put, List.setIfInBounds_toArray, List.set_cons_zero, List.set_cons_succ]
      refine wpAnyH_take (i := 9) (v := ?_) rfl (by kernel_rfl) (by kernel_rfl) (by kernel_rfl) (fun _ _ _ h => h) (Or.inl ⟨by rfl, ?_⟩) (by assumption) ?_
      rotate_left
      · intro wq hSw; (try dsimp only at hSw); go_simp; (try with_reducible rfl)
      simp only [List.getElem_toArray, List.getElem_cons_succ, List.getElem_cons_zero, Act.put, List.setIfInBounds_toArray, List.set_cons_zero, List.set_cons_succ]
      refine wpAnyH_take (i := 10) (v := ?_) rfl (by kernel_rfl) (by kernel_rfl) (by kernel_rfl) (fun _ _ _ h => h) (Or.inl ⟨by rfl, ?_⟩) (by assumption) ?_
      rotate_left
      · intro wq hSw; (try dsimp only at hSw); go_simp; (try with_reducible rfl)
      simp only [List.getElem_toArray, List.getElem_cons_succ, List.getElem_cons_zero, Act.put, List.setIfInBounds_toArray, List.set_cons_zero, List.set_cons_succ]
      refine wpAnyH_ready (rs := [11]) (by kernel_rfl) (by simp) ?_
      refine AllReadyH.cons rfl (fun K hK => ?_) AllReadyH.nil
      go_simp
      refine (CW2.out _ (HDA.out _ Xb.out)).mono ?_; rintro e wc ⟨rfl, gc⟩; have Xc := Lib.hid (Xb.out.gb gc); clear gc
      try go_wp2_with fail
      refine hK.out _ _ (KP.out _ Xc.out) (fun hHeld => ?_)
      clear hK K
      try simp only [List.getElem_toArray, List.getElem_cons_succ, List.getElem_cons_zero, Act.put, List.setIfInBounds_toArray, List.set_cons_zero, List.set_cons_succ]
      refine wpAnyH_take (i := 12) (v := ?_) rfl (by kernel_rfl) (by kernel_rfl) (by kernel_rfl) (fun _ _ _ h => h) (Or.inl ⟨by rfl, ?_⟩) (by assumption) ?_
      rotate_left
      · intro wq hSw; (try dsimp only at hSw); go_simp; (try with_reducible rfl)
      simp only [List.getElem_toArray, List.getElem_cons_succ, List.getElem_cons_zero, Act.put, List.setIfInBounds_toArray, List.set_cons_zero, List.set_cons_succ]
      refine wpAnyH_take (i := 13) (v := ?_) rfl (by kernel_rfl) (by kernel_rfl) (by kernel_rfl) (fun _ _ _ h => h) (Or.inl ⟨by rfl, ?_⟩) (by assumption) ?_
      rotate_left
      · intro wq hSw; (try dsimp only at hSw); go_simp; (try with_reducible rfl)
      simp only [List.getElem_toArray, List.getElem_cons_succ, List.getElem_cons_zero, Act.put, List.setIfInBounds_toArray, List.set_cons_zero, List.set_cons_succ]
      refine wpAnyH_take (i := 14) (v := ?_) rfl (by kernel_rfl) (by kernel_rfl) (by kernel_rfl) (fun _ _ _ h => h) (Or.inl ⟨by rfl, ?_⟩) (by assumption) ?_
      rotate_left
      · intro wq hSw; (try dsimp only at hSw); go_simp; (try with_reducible rfl)
      simp only [List.getElem_toArray, List.getElem_cons_succ, List.getElem_cons_zero, Act.put, List.setIfInBounds_toArray, List.set_cons_zero, List.set_cons_succ]
      refine wpAnyH_take (i := 15) (v := ?_) rfl (by kernel_rfl) (by kernel_rfl) (by kernel_rfl) (fun _ _ _ h => h) (Or.inl ⟨by rfl, ?_⟩) (by assumption) ?_
      rotate_left
      · intro wq hSw; (try dsimp only at hSw); go_simp; (try with_reducible rfl)
      simp only [List.getElem_toArray, List.getElem_cons_succ, List.getElem_cons_zero, Act.put, List.setIfInBounds_toArray, List.set_cons_zero, List.set_cons_succ]
      refine wpAnyH_take (i := 16) (v := ?_) rfl (by kernel_rfl) (by kernel_rfl) (by kernel_rfl) (fun _ _ _ h => h) (Or.inl ⟨by rfl, ?_⟩) (by assumption) ?_
      rotate_left
      · intro wq hSw; (try dsimp only at hSw); go_simp; (try with_reducible rfl)
      simp only [List.getElem_toArray, List.getElem_cons_succ, List.getElem_cons_zero, Act.put, List.setIfInBounds_toArray, List.set_cons_zero, List.set_cons_succ]
      refine wpAnyH_take (i := 17) (v := ?_) rfl (by kernel_rfl) (by kernel_rfl) (by kernel_rfl) (fun _ _ _ h => h) (Or.inl ⟨by rfl, ?_⟩) (by assumption) ?_
      rotate_left
      · intro wq hSw; (try dsimp only at hSw); go_simp; (try with_reducible rfl)
      simp only [List.getElem_toArray, List.getElem_cons_succ, List.getElem_cons_zero, Act.put, List.setIfInBounds_toArray, List.set_cons_zero, List.set_cons_succ]
      refine wpAnyH_take (i := 18) (v := undef) rfl (by kernel_rfl) (by kernel_rfl) (by kernel_rfl) (fun _ _ _ h => h) (Or.inr ⟨by rfl, rfl⟩) (by assumption) ?_
      simp only [List.getElem_toArray, List.getElem_cons_succ, List.getElem_cons_zero, Act.put, List.setIfInBounds_toArray, List.set_cons_zero, List.set_cons_succ]
      refine wpAnyH_take (i := 19) (v := undef) rfl (by kernel_rfl) (by kernel_rfl) (by kernel_rfl) (fun _ _ _ h => h) (Or.inr ⟨by rfl, rfl⟩) (by assumption) ?_
      simp only [List.getElem_toArray, List.getElem_cons_succ, List.getElem_cons_zero, Act.put, List.setIfInBounds_toArray, List.set_cons_zero, List.set_cons_succ]
      refine wpAnyH_take (i := 20) (v := undef) rfl (by kernel_rfl) (by kernel_rfl) (by kernel_rfl) (fun _ _ _ h => h) (Or.inr ⟨by rfl, rfl⟩) (by assumption) ?_
      simp only [List.getElem_toArray, List.getElem_cons_succ, List.getElem_cons_zero, Act.put, List.setIfInBounds_toArray, List.set_cons_zero, List.set_cons_succ]
      refine wpAnyH_take (i := 21) (v := undef) rfl (by kernel_rfl) (by kernel_rfl) (by kernel_rfl) (fun _ _ _ h => h) (Or.inr ⟨by rfl, rfl⟩) (by assumption) ?_
      simp only [List.getElem_toArray, List.getElem_cons_succ, List.getElem_cons_zero, Act.put, List.setIfInBounds_toArray, List.set_cons_zero, List.set_cons_succ]
      refine wpAnyH_take (i := 22) (v := undef) rfl (by kernel_rfl) (by kernel_rfl) (by kernel_rfl) (fun _ _ _ h => h) (Or.inr ⟨by rfl, rfl⟩) (by assumption) ?_
      simp only [List.getElem_toArray, List.getElem_cons_succ, List.getElem_cons_zero, Act.put, List.setIfInBounds_toArray, List.set_cons_zero, List.set_cons_succ]
      refine wpAnyH_take (i := 23) (v := ?_) rfl (by kernel_rfl) (by kernel_rfl) (by kernel_rfl) (fun _ _ _ h => h) (Or.inl ⟨by rfl, ?_⟩) (by assumption) ?_
      rotate_left
      · intro wq hSw; (try dsimp only at hSw); go_simp; (try with_reducible rfl)
      simp only [List.getElem_toArray, List.getElem_cons_succ, List.getElem_cons_zero, Act.put, List.setIfInBounds_toArray, List.set_cons_zero, List.set_cons_succ]
      refine wpAnyH_take (i := 24) (v := ?_) rfl (by kernel_rfl) (by kernel_rfl) (by kernel_rfl) (fun _ _ _ h => h) (Or.inl ⟨by rfl, ?_⟩) (by assumption) ?_
      rotate_left
      · intro wq hSw; (try dsimp only at hSw); go_simp; (try with_reducible rfl)
      simp only [List.getElem_toArray, List.getElem_cons_succ, List.getElem_cons_zero, Act.put, List.setIfInBounds_toArray, List.set_cons_zero, List.set_cons_succ]
      refine wpAnyH_take (i := 25) (v := ?_) rfl (by kernel_rfl) (by kernel_rfl) (by kernel_rfl) (fun _ _ _ h => h) (Or.inl ⟨by rfl, ?_⟩) (by assumption) ?_
      rotate_left
      · intro wq hSw; (try dsimp only at hSw); go_simp; (try with_reducible rfl)
      simp only [List.getElem_toArray, List.getElem_cons_succ, List.getElem_cons_zero, Act.put, List.setIfInBounds_toArray, List.set_cons_zero, List.set_cons_succ]
      refine wpAnyH_take (i := 26) (v := ?_) rfl (by kernel_rfl) (by kernel_rfl) (by kernel_rfl) (fun _ _ _ h => h) (Or.inl ⟨by rfl, ?_⟩) (by assumption) ?_
      rotate_left
      · intro wq hSw; (try dsimp only at hSw); go_simp; (try with_reducible rfl)
      simp only [List.getElem_toArray, List.getElem_cons_succ, List.getElem_cons_zero, Act.put, List.setIfInBounds_toArray, List.set_cons_zero, List.set_cons_succ]
      refine wpAnyH_ready (rs := [27]) (by kernel_rfl) (by simp) ?_
      refine AllReadyH.cons rfl (fun K hK => ?_) AllReadyH.nil
      go_simp
      refine (CCP.out _ (HDA.out _ Xc.out)).mono ?_; rintro e we ⟨rfl, ge⟩; have Xe := Lib.hid (Xc.out.gb ge); clear ge
      try go_wp2_with fail
      refine hK.out _ _ (KP.out _ Xe.out) (fun hHeld => ?_)
      clear hK K
      try simp only [List.getElem_toArray, List.getElem_cons_succ, List.getElem_cons_zero, Act.put, List.setIfInBounds_toArray, List.set_cons_zero, List.set_cons_succ]
      refine wpAnyH_take (i := 28) (v := ?_) rfl (by kernel_rfl) (by kernel_rfl) (by kernel_rfl) (fun _ _ _ h => h) (Or.inl ⟨by rfl, ?_⟩) (by assumption) ?_
      rotate_left
      · intro wq hSw; (try dsimp only at hSw); go_simp; (try with_reducible rfl)
      simp only [List.getElem_toArray, List.getElem_cons_succ, List.getElem_cons_zero, Act.put, List.setIfInBounds_toArray, List.set_cons_zero, List.set_cons_succ]
      refine wpAnyH_take (i := 29) (v := ?_) rfl (by kernel_rfl) (by kernel_rfl) (by kernel_rfl) (fun _ _ _ h => h) (Or.inl ⟨by rfl, ?_⟩) (by assumption) ?_
      rotate_left
      · intro wq hSw; (try dsimp only at hSw); go_simp; (try with_reducible rfl)
      simp only [List.getElem_toArray, List.getElem_cons_succ, List.getElem_cons_zero, Act.put, List.setIfInBounds_toArray, List.set_cons_zero, List.set_cons_succ]
      refine wpAnyH_take (i := 30) (v := ?_) rfl (by kernel_rfl) (by kernel_rfl) (by kernel_rfl) (fun _ _ _ h => h) (Or.inl ⟨by rfl, ?_⟩) (by assumption) ?_
      rotate_left
      · intro wq hSw; (try dsimp only at hSw); go_simp; (try with_reducible rfl)
      simp only [List.getElem_toArray, List.getElem_cons_succ, List.getElem_cons_zero, Act.put, List.setIfInBounds_toArray, List.set_cons_zero, List.set_cons_succ]
      refine wpAnyH_take (i := 31) (v := ?_) rfl (by kernel_rfl) (by kernel_rfl) (by kernel_rfl) (fun _ _ _ h => h) (Or.inl ⟨by rfl, ?_⟩) (by assumption) ?_
      rotate_left
      · intro wq hSw; (try dsimp only at hSw); go_simp; (try with_reducible rfl)
      simp only [List.getElem_toArray, List.getElem_cons_succ, List.getElem_cons_zero, Act.put, List.setIfInBounds_toArray, List.set_cons_zero, List.set_cons_succ]
      refine wpAnyH_take (i := 32) (v := ?_) rfl (by kernel_rfl) (by kernel_rfl) (by kernel_rfl) (fun _ _ _ h => h) (Or.inl ⟨by rfl, ?_⟩) (by assumption) ?_
      rotate_left
      · intro wq hSw; (try dsimp only at hSw); go_simp; (try with_reducible rfl)
      simp only [List.getElem_toArray, List.getElem_cons_succ, List.getElem_cons_zero, Act.put, List.setIfInBounds_toArray, List.set_cons_zero, List.set_cons_succ]
      refine wpAnyH_ready (rs := [33]) (by kernel_rfl) (by simp) ?_
      refine AllReadyH.cons rfl (fun K hK => ?_) AllReadyH.nil
      go_simp
      refine (CSF.out _ (HDA.out _ Xe.out)).mono ?_; rintro e wf ⟨rfl, gf2⟩; have Xf := Lib.hid (Xe.out.gb gf2); clear gf2
      try go_wp2_with fail
      refine hK.out _ _ (KP.out _ Xf.out) (fun hHeld => ?_)
      clear hK K
      try simp only [List.getElem_toArray, List.getElem_cons_succ, List.getElem_cons_zero, Act.put, List.setIfInBounds_toArray, List.set_cons_zero, List.set_cons_succ]
      refine wpAnyH_take (i := 34) (v := ?_) rfl (by kernel_rfl) (by kernel_rfl) (by kernel_rfl) (fun _ _ _ h => h) (Or.inl ⟨by rfl, ?_⟩) (by assumption) ?_
      rotate_left
      · intro wq hSw; (try dsimp only at hSw); go_simp; (try with_reducible rfl)
      simp only [List.getElem_toArray, List.getElem_cons_succ, List.getElem_cons_zero, Act.put, List.setIfInBounds_toArray, List.set_cons_zero, List.set_cons_succ]
      refine wpAnyH_take (i := 35) (v := ?_) rfl (by kernel_rfl) (by kernel_rfl) (by kernel_rfl) (fun _ _ _ h => h) (Or.inl ⟨by rfl, ?_⟩) (by assumption) ?_
      rotate_left
      · intro wq hSw; (try dsimp only at hSw); go_simp; (try with_reducible rfl)
      simp only [List.getElem_toArray, List.getElem_cons_succ, List.getElem_cons_zero, Act.put, List.setIfInBounds_toArray, List.set_cons_zero, List.set_cons_succ]
      refine wpAnyH_take (i := 36) (v := ?_) rfl (by kernel_rfl) (by kernel_rfl) (by kernel_rfl) (fun _ _ _ h => h) (Or.inl ⟨by rfl, ?_⟩) (by assumption) ?_
      rotate_left
      · intro wq hSw; (try dsimp only at hSw); go_simp; (try with_reducible rfl)
      simp only [List.getElem_toArray, List.getElem_cons_succ, List.getElem_cons_zero, Act.put, List.setIfInBounds_toArray, List.set_cons_zero, List.set_cons_succ]
      refine wpAnyH_take (i := 37) (v := ?_) rfl (by kernel_rfl) (by kernel_rfl) (by kernel_rfl) (fun _ _ _ h => h) (Or.inl ⟨by rfl, ?_⟩) (by assumption) ?_
      rotate_left
      · intro wq hSw; (try dsimp only at hSw); go_simp; (try with_reducible rfl)
      simp only [List.getElem_toArray, List.getElem_cons_succ, List.getElem_cons_zero, Act.put, List.setIfInBounds_toArray, List.set_cons_zero, List.set_cons_succ]
      refine wpAnyH_take (i := 38) (v := ?_) rfl (by kernel_rfl) (by kernel_rfl) (by kernel_rfl) (fun _ _ _ h => h) (Or.inl ⟨by rfl, ?_⟩) (by assumption) ?_
      rotate_left
      · intro wq hSw; (try dsimp only at hSw); go_simp; (try with_reducible rfl)
      simp only [List.getElem_toArray, List.getElem_cons_succ, List.getElem_cons_zero, Act.put, List.setIfInBounds_toArray, List.set_cons_zero, List.set_cons_succ]
      refine wpAnyH_take (i := 39) (v := ?_) rfl (by kernel_rfl) (by kernel_rfl) (by kernel_rfl) (fun _ _ _ h => h) (Or.inl ⟨by rfl, ?_⟩) (by assumption) ?_
      rotate_left
      · intro wq hSw; (try dsimp only at hSw); go_simp; (try with_reducible rfl)
      simp only [List.getElem_toArray, List.getElem_cons_succ, List.getElem_cons_zero, Act.put, List.setIfInBounds_toArray, List.set_cons_zero, List.set_cons_succ]
      refine wpAnyH_take (i := 40) (v := ?_) rfl (by kernel_rfl) (by kernel_rfl) (by kernel_rfl) (fun _ _ _ h => h) (Or.inl ⟨by rfl, ?_⟩) (by assumption) ?_
      rotate_left
      · intro wq hSw; (try dsimp only at hSw); go_simp; (try with_reducible rfl)
      simp only [List.getElem_toArray, List.getElem_cons_succ, List.getElem_cons_zero, Act.put, List.setIfInBounds_toArray, List.set_cons_zero, List.set_cons_succ]
      refine wpAnyH_take (i := 41) (v := ?_) rfl (by kernel_rfl) (by kernel_rfl) (by kernel_rfl) (fun _ _ _ h => h) (Or.inl ⟨by rfl, ?_⟩) (by assumption) ?_
      rotate_left
      · intro wq hSw; (try dsimp only at hSw); go_simp; (try with_reducible rfl)
      simp only [List.getElem_toArray, List.getElem_cons_succ, List.getElem_cons_zero, Act.put, List.setIfInBounds_toArray, List.set_cons_zero, List.set_cons_succ]
      refine wpAnyH_take (i := 42) (v := ?_) rfl (by kernel_rfl) (by kernel_rfl) (by kernel_rfl) (fun _ _ _ h => h) (Or.inl ⟨by rfl, ?_⟩) (by assumption) ?_
      rotate_left
      · intro wq hSw; (try dsimp only at hSw); go_simp; (try with_reducible rfl)
      simp only [List.getElem_toArray, List.getElem_cons_succ, List.getElem_cons_zero, Act.put, List.setIfInBounds_toArray, List.set_cons_zero, List.set_cons_succ]
      refine wpAnyH_take (i := 43) (v := ?_) rfl (by kernel_rfl) (by kernel_rfl) (by kernel_rfl) (fun _ _ _ h => h) (Or.inl ⟨by rfl, ?_⟩) (by assumption) ?_
      rotate_left
      · intro wq hSw; (try dsimp only at hSw); go_simp; (try with_reducible rfl)
      simp only [List.getElem_toArray, List.getElem_cons_succ, List.getElem_cons_zero, Act.put, List.setIfInBounds_toArray, List.set_cons_zero, List.set_cons_succ]
      refine wpAnyH_take (i := 44) (v := ?_) rfl (by kernel_rfl) (by kernel_rfl) (by kernel_rfl) (fun _ _ _ h => h) (Or.inl ⟨by rfl, ?_⟩) (by assumption) ?_
      rotate_left
      · intro wq hSw; (try dsimp only at hSw); go_simp; (try with_reducible rfl)
      simp only [List.getElem_toArray, List.getElem_cons_succ, List.getElem_cons_zero, Act.put, List.setIfInBounds_toArray, List.set_cons_zero, List.set_cons_succ]
      refine wpAnyH_done (by kernel_rfl) ?_ _
      go_wp2_with fail
      go_ret
      exact ⟨rfl, Xf.out.lb⟩
    · have CW3 := Lib.hid (fun (w : World) (h : RecAt 5 fltC w w.heap.size (some ⟨gf, 0, none⟩) m D) => show Calls Try.prog 14 #[.slice (some ⟨gf, k * 5, none⟩) (m - k) (c3 - k)] w (RetB false w) by have h1 := h.drop (k := k) (by omega); rw [Nat.zero_add] at h1; have h9 := implIsWhole (some ⟨gf, k * 5, none⟩) (m - k) (c3 - k) (D.drop k) w h1 (by omega); rw [HW3.out k (by omega) hkm] at h9; exact h9)
      have hk1 : ((k : Int) == 0) = false := by simp; omega
      have hk2 : ¬ (k : Int) = 0 := by omega
      clear p0 q4
      go_region_held3 (fun w' => w'.cell? ⟨b1, 0, none⟩ = some (.int .i64 W) ∧ w'.cell? ⟨b1, 1, none⟩ = some (.int .i64 H) ∧ w'.cell? ⟨b2, 0, none⟩ = some (.int .i64 p.id) ∧ w'.cell? ⟨b2, 1, none⟩ = some (.int .i64 p.fr) ∧ w'.cell? ⟨b2, 2, none⟩ = some (.int .i64 p.to) ∧ w'.cell? ⟨b2, 3, none⟩ = some (.int .i64 p.cl) ∧ w'.cell? ⟨b2, 4, none⟩ = some (.int .i64 p.ln) ∧ w'.cell? ⟨gf, 0, none⟩ = some (.int .i64 p.id))
        (first | with_reducible exact KP.out _ X4.out | with_reducible exact KP.out _ X4.out.dr | with_reducible exact KP.out _ Xa.out | with_reducible exact KP.out _ Xb.out | with_reducible exact KP.out _ Xc.out | with_reducible exact KP.out _ Xd.out | with_reducible exact KP.out _ Xe.out | with_reducible exact KP.out _ Xf.out | fail)
        (first
          | (go_at_call 13; (with_reducible refine (HPO.out _).mono ?_); rintro e wa ⟨rfl, ga⟩; have Xa := Lib.hid (X4.out.dr.gb ga); clear ga)
          | (go_at_call 14; (with_reducible refine (CW1.out _ (HDA.out _ Xa.out)).mono ?_); rintro e wb ⟨rfl, gb⟩; have Xb := Lib.hid (Xa.out.gb gb); clear gb)
          | (go_at_call 14; (with_reducible refine (CW2.out _ (HDA.out _ Xb.out)).mono ?_); rintro e wc ⟨rfl, gc⟩; have Xc := Lib.hid (Xb.out.gb gc); clear gc)
          | (go_at_call 14; (with_reducible refine (CW3.out _ (HDA.out _ Xc.out)).mono ?_); rintro e wd ⟨rfl, gd⟩; have Xd := Lib.hid (Xc.out.gb gd); clear gd)
          | (go_at_call 15; (with_reducible refine (CCP.out _ (HDA.out _ Xd.out)).mono ?_); rintro e we ⟨rfl, ge⟩; have Xe := Lib.hid (Xd.out.gb ge); clear ge)
          | (go_at_call 16; (with_reducible refine (CSF.out _ (HDA.out _ Xe.out)).mono ?_); rintro e wf ⟨rfl, gf'⟩; have Xf := Lib.hid (Xe.out.gb gf'); clear gf')
          | fail)
      all_goals
        go_wp2_with fail
        go_ret
        exact ⟨rfl, Xf.out.lb⟩
end Go.Proofs.Ytcjidpegmlbenaa
