/- What is proved here: the program's IdsDistinct, by a map of the Ids that have been seen; nothing is written but new blocks; the law FnSends answers true for every argument; only new blocks are written. -/
import Derived.Test.YtfloekbmgjmhbaaMD
import Derived.Maps.OwnSet
import Derived.Maps.OwnOps
import Derived.Deep.RegionHeld3
section
namespace Go.Proofs.Ytfloekbmgjmhbaa
open Go.ChangeShapes Go.WideShapes Go.ChangeAt Go.RowKit Go.Maps
set_option linter.unusedVariables false
set_option maxRecDepth 20000

theorem keyIdP : Keyed Try.prog 3 := int_keyed Try.underlying3
theorem bool_read {P : Program} {e : TypeId} (he : P.underlying e = some .bool) {v : Value} {z : DataW Unit × List MemPlace} (h : plainElem P e v = some z) : ∃ x, v = .bool x ∧ z = (.lit (.bool x), []) := by
  unfold plainElem at h
  rw [he] at h
  cases v with
  | bool x =>
    simp only [Option.some.injEq] at h
    exact ⟨x, rfl, h.symm⟩
  | _ => simp at h
/-- 'm[k]' at elements that are bools. -/
theorem wpList_look_bool {P : Program} (w : World) {ops : Array Oper} {rest : List Oper} {o : Oper} {a : Act} {Q : Exit → Act → World → Prop} (hg : o.guard = none) (m x : Operand) (t : TypeId) (hop : o.op = Op.lookup t m x false)
    (k e : TypeId) (K : Keyed P k) (ht : P.underlying t = some (.map k e)) (he : P.underlying e = some .bool) (hz : (zeroValue e).run P w = .ok (.bool false) w) (b n : Nat) (D : DataW Unit)
    (hm : a.eval m = .map (some b)) (hown : w.ownsMap P k (plainElem P e) b n D) (key : Value) (kl : Lit) (hx : a.eval x = key) (hkey : keyOf P k key = some kl) (c : Bool) (hc : D.atKey kl (.lit (.bool false)) = .lit (.bool c))
    (hK : wpList P ops Q rest (a.put o.dst (.bool c)) w) : wpList P ops Q (o :: rest) a w := by
  refine wpList_plain hg fun K' hK' => ?_
  obtain ⟨v, ps, hrun, hv⟩ := hown.lookup K ht hz (plainElem_bool he false) hkey
  obtain ⟨c', rfl, hc'⟩ := bool_read he hv
  have h1 := congrArg Prod.fst hc'
  simp only at h1
  rw [hc] at h1
  injection h1 with h2
  injection h2 with h3
  subst h3
  unfold Oper.wp
  simp [execOp, hop, hm, hx, hrun, Result.andThen]
  exact hK' _ _ hK
/-- Whether one of the first packets has an Id. -/
def seenB (D : List Pkt) (a : Nat) (x : Int) : Bool := (D.take a).any fun p => decide (p.id = x)
theorem seen_next {D : List Pkt} {a : Nat} {p : Pkt} (h : D[a]? = some p) (y : Int) : seenB D (a + 1) y = if y = p.id then true else seenB D a y := by
  have e : D.take (a + 1) = D.take a ++ [p] := by rw [List.take_add_one, h]; rfl
  rw [seenB, e, List.any_append]
  by_cases hy : y = p.id
  · rw [if_pos hy]; simp [hy]
  · rw [if_neg hy]
    have : ¬ p.id = y := fun e => hy e.symm
    simp [this, seenB]
def UniqP (D : List Pkt) (a : Nat) : Prop := ∀ i, i < a → ∀ k, k < i → (atP D i).id ≠ (atP D k).id
theorem seen_yes {D : List Pkt} {a : Nat} {p : Pkt} (h : D[a]? = some p) (hs : seenB D a p.id = true) : idsG D = false := by
  rw [seenB, List.any_eq_true] at hs
  obtain ⟨q, hq, he⟩ := hs
  obtain ⟨k, hk, e⟩ := List.getElem_of_mem hq
  have ha := (List.getElem?_eq_some_iff.1 h).1
  rw [List.length_take] at hk
  rw [List.getElem_take] at e
  have hqk : D[k]? = some q := List.getElem?_eq_some_iff.2 ⟨by omega, e⟩
  exact ids_no ha (show k < a by omega) (by rw [atP_of h, atP_of hqk]; exact (of_decide_eq_true he).symm)
theorem seen_no {D : List Pkt} {a : Nat} {p : Pkt} (h : D[a]? = some p) (hs : seenB D a p.id = false) (hu : UniqP D a) : UniqP D (a + 1) := by
  intro i hi k hk
  rcases Nat.lt_or_ge i a with h1 | h1
  · exact hu i h1 k hk
  · obtain rfl : i = a := by omega
    intro e
    have ha := (List.getElem?_eq_some_iff.1 h).1
    have hq : D[k]? = some D[k] := List.getElem?_eq_getElem (by omega)
    rw [atP_of h, atP_of hq] at e
    have : seenB D i p.id = true := by
      rw [seenB, List.any_eq_true]
      exact ⟨D[k], List.mem_of_getElem? (i := k) (by rw [List.getElem?_take, if_pos hk]; exact hq), decide_eq_true e.symm⟩
    rw [hs] at this
    cases this
/-- Block b is a map from numbers to bools that says what f says. -/
def IdsAt (w : World) (b n : Nat) (f : Int → Bool) : Prop := ∃ D : DataW Unit, w.ownsMap Try.prog 3 (plainElem Try.prog 4) b n D ∧ ∀ x, D.atKey (.int .i64 x) (.lit (.bool false)) = .lit (.bool (f x))
theorem IdsAt.made (w : World) : IdsAt (w.alloc (.map #[] 0)) w.heap.size 0 (fun _ => false) := ⟨.map [], World.ownsMap_made _ _ _ _, fun x => rfl⟩
set_option maxHeartbeats 1600000 in
theorem implIdsDistinct (A : Option Addr) (n cap : Nat) (D : List Pkt) (w : World) (h : RecAt 5 pktC w w.heap.size A n D) (hn : n ≤ 1000000000) (hw : ∀ p ∈ D, wfP p) :
    Calls Try.prog 14 #[.slice A n cap] w (RetB (idsG D) w) := by
  have HI := Lib.hid h
  have hl := h.1
  have HW := Lib.hid hw
  have HYES := Lib.hid (fun hu : UniqP D n => ids_yes (D := D) (by rw [hl]; exact hu))
  have HNO := Lib.hid (fun (a : Nat) p (h : D[a]? = some p) hs => seen_yes h hs)
  obtain ⟨r, hr⟩ : ∃ r, idsG D = r := ⟨_, rfl⟩
  rw [hr] at HNO HYES
  rw [hr]
  have hmm := @run_makeMap Try.prog
  have I0 := Lib.hid (IdsAt.made w)
  have B0 := Lib.hid ((Below.refl w.heap.size w).alloc (Nat.le_refl _) (.map #[] 0))
  clear h hw hr
  go_enter Try.func14, Try.ntmps14
  go_wp2_with fail
  go_loopw [9] (fun i wr => ∃ a : Nat, i = .int .i64 (a : Int) ∧ a ≤ n ∧ UniqP D a ∧ IdsAt wr w.heap.size a (seenB D a) ∧ Below w.heap.size w wr) (fun i _ => n - (intOf i).toNat)
  case atStart => exact ⟨0, rfl, Nat.zero_le _, fun i hi => by omega, I0.out, B0.out⟩
  case round =>
    obtain ⟨a, rfl, ha, hu, hm, hb⟩ := hrel
    have HU := Lib.hid hu
    have HB := Lib.hid hb
    by_cases hlt : a < n
    · obtain ⟨M, hown, hat⟩ := hm
      obtain ⟨g, o, p, rfl, _, hx, hc⟩ := (HI.out.below hb).at a hlt
      obtain ⟨c0, c1, c2, c3, c4⟩ := pkt_five hc
      have k0 : (0 : Int) ≤ (a : Int) := by omega
      have k1 : (a : Int) < (n : Int) := by omega
      have e1 : IntKind.i64.wrap ((a : Int) + 1) = ((a + 1 : Nat) : Int) := by rw [IntWalk.i64_in _ (by omega)]; omega
      have HX := Lib.hid hx
      have HK := Lib.hid (keyOf_int_mk Try.underlying3 (HW.out p (List.mem_of_getElem? hx)).1)
      have HO := Lib.hid hown
      have HAT := Lib.hid hat
      obtain ⟨b, hbb⟩ : ∃ b, seenB D a p.id = b := ⟨_, rfl⟩
      have HBB := Lib.hid hbb
      have HC := Lib.hid (show M.atKey (.int .i64 p.id) (.lit (.bool false)) = .lit (.bool b) by rw [hat, hbb])
      clear hu hb hc hx hown hat hbb
      cases b with
      | true =>
        have HR := Lib.hid (HNO.out a p HX.out HBB.out)
        go_wp2_with (at_lookup; refine wpList_look_bool _ rfl _ _ 85 rfl 3 4 keyIdP Try.underlying85 Try.underlying4 (by kernel_rfl) w.heap.size a M rfl (HO.out.alloc _) _ _ rfl HK.out true HC.out ?_)
        go_ret
        exact ⟨ret_bool HR.out.symm, gb_alloc (gb_of_below HB.out none) _⟩
      | false =>
        go_wp2_with (first
          | (at_lookup; refine wpList_look_bool _ rfl _ _ 85 rfl 3 4 keyIdP Try.underlying85 Try.underlying4 (by kernel_rfl) w.heap.size a M rfl (HO.out.alloc _) _ _ rfl HK.out false HC.out ?_)
          | (at_mapUpdate; refine wpList_mapUpdate_own _ rfl _ _ _ 85 rfl 3 4 keyIdP Try.underlying85 (plainElem Try.prog 4) w.heap.size a M rfl (HO.out.alloc _) (by unfold maxLen; omega) _ _ _ rfl rfl HK.out (.lit (.bool true)) [] (plainElem_bool Try.underlying4 true) ?_; intro w1 hown1 hg1; have HO1 := Lib.hid hown1; have HG1 := Lib.hid hg1; clear hown1 hg1))
        go_roundw
        case rel => exact ⟨a + 1, by go_num, by omega, seen_no HX.out HBB.out HU.out, ⟨_, HO1.out, fun y => by
            rw [seen_next HX.out]
            by_cases hy : y = p.id
            · rw [if_pos hy, hy, atKey_put_same HO.out.isMap (by trivial)]
            · rw [if_neg hy, atKey_put_other (by simpa using hy), HAT.out]⟩, (HB.out.alloc HB.out.size _).grown HG1.out (by rw [alloc_size]; have := HB.out.size; omega) (fun j e => by cases e; exact Nat.le_refl _)⟩
        case measure => simp [intOf]; omega
    · obtain rfl : a = n := by omega
      have k1 : ¬ (a : Int) < (a : Int) := by omega
      have HR := Lib.hid (HYES.out HU.out)
      clear hu hm hb
      go_wp2_with fail
      go_ret
      exact ⟨ret_bool HR.out.symm, gb_of_below HB.out none⟩
end Go.Proofs.Ytfloekbmgjmhbaa
end

section
namespace Go.Proofs.Ytfloekbmgjmhbaa
open Go.ChangeShapes Go.WideShapes Go.ChangeAt Go.RowKit
set_option linter.unusedVariables false
set_option maxRecDepth 20000

theorem sqS_le {W H : Int} : sqG W H ≤ 256 := by
  have h := cntN_le W H
  exact Nat.mul_le_mul h h
theorem sends_sm {W H : Int} {P Q : List Int} (h2 : P.length ≤ 256) (h3 : Q.length ≤ 256) : sizeN (newNet W H [] P Q) ≤ 1048576 := by
  have hk := (countG_le W H).2
  simp [newNet, sizeN, sumL_rep]
  omega
set_option maxHeartbeats 8000000 in
theorem walk_FnSends (A : Option Addr) (n cap : Nat) (w : World) (hr : ByteRow w w.heap.size A n) :
    Calls Try.prog 3 #[.slice A n cap] w fun e w' => e = .returned (.bool true) ∧ Below w.heap.size w w' := by
  by_cases hbig : 1048576 < n
  · go_enter Try.func3, Try.ntmps3
    go_wp2_with fail
    refine (lawsBig A n cap _).mono ?_
    rintro e w1 ⟨rfl, rfl⟩
    rw [decide_eq_true hbig]
    go_wp2_with fail
    go_ret
    exact ⟨rfl, Below.refl _ _⟩
  have HR := Lib.hid hr
  have hn : n ≤ 1048576 := by omega
  clear hr
  go_enter Try.func3, Try.ntmps3
  go_wp2_with fail
  refine (lawsBig A n cap _).mono ?_
  rintro e w1 ⟨rfl, rfl⟩
  rw [decide_eq_false hbig]
  clear hbig
  go_wp2_with fail
  refine (drawTraffic A n cap _ HR.out hn).mono ?_
  rintro e w2 ⟨W, H, r, s, v, u, x, D, rfl, hok, ⟨hr1, hr4, hs1, hs4⟩, ho2, hox, ⟨hD6, hD⟩, hb2⟩
  have htA := (std_facts hok hr1 hr4).1
  have htB := (std_facts hok hs1 hs4).1
  have hl1 : (stdTab W H r).length ≤ 256 := by unfold stdTab; rw [stdTo_len]; exact sqS_le
  have hl2 : (stdTab W H s).length ≤ 256 := by unfold stdTab; rw [stdTo_len]; exact sqS_le
  obtain ⟨P, hP⟩ : ∃ P, stdTab W H r = P := ⟨_, rfl⟩
  obtain ⟨Q, hQ⟩ : ∃ Q, stdTab W H s = Q := ⟨_, rfl⟩
  rw [hP] at htA hl1 ho2
  rw [hQ] at htB hl2 ho2
  have hcl := clsOk_yes htA htB
  have WN : WfL [] := fun x h => by cases h
  obtain ⟨Ap, cp, rfl, _⟩ := own_form ho2.r
  obtain ⟨Aq, cq, rfl, _⟩ := own_form ho2.c
  obtain ⟨Ax, cx, rfl, _⟩ := own_form hox
  have HNN := Lib.hid (fun w h h2 => implNetNew W H none Ap Aq 0 0 P.length cp Q.length cq [] P Q WN w (IntAt.nil w w.heap.size none) h h2 (by omega) (by omega) (by omega))
  have hnn : netNewG W H [] P Q = newNet W H [] P Q := by rw [netNewG, if_pos hcl]
  have hok' := newNet_ok hcl
  have hsz := sends_sm (W := W) (H := H) hl1 hl2
  have hsend := sends_new (L := []) hcl hD hD6 D.length (Nat.le_refl _)
  have hlen := len_le hD D.length
  rw [List.take_length] at hsend
  have hids := Lib.hid (ids_of_pks hD)
  have hwf := Lib.hid (wf_of_pks hok hD)
  have hinb : sumL (newNet W H [] P Q).bu = 0 := by simp [newNet, sumL_rep]
  have hD0 := Lib.hid hD
  rw [hnn, hcl] at HNN
  obtain ⟨N, hN⟩ : ∃ N, newNet W H [] P Q = N := ⟨_, rfl⟩
  rw [hN] at HNN hok' hsz hsend hinb
  have hwL : WfL N.br := by rw [← hN]; exact WN
  have hall : allOk N D = true := by rw [allOk, hok', decide_eq_true (by omega)]; rfl
  have hlike := like_sendAll N D
  have hok2 : netOk (sendAllG N D) = true := by
    have h1 := (sendsP_take N D D.length).1
    rw [List.take_length, hok'] at h1
    rw [sendAllG, if_pos hall]
    exact h1
  have hk2 : sentG N D = (D.length : Int) := by rw [sentG, if_pos hall, hsend.1]
  have hsum : (sumL (sendAllG N D).so : Int) = lenTo D D.length := by rw [sendAllG, if_pos hall]; exact hsend.2
  have hsmR := (hlike.sm hsz (by omega)).1
  have hsmN := netSm_of hsz
  have HSA := Lib.hid (fun y A c w h hc hr => implSendAll y N A D.length c D w h hsmN hc hwL hr (by omega))
  rw [hk2] at HSA
  obtain ⟨R, hR⟩ : ∃ R, sendAllG N D = R := ⟨_, rfl⟩
  rw [hR] at hlike hok2 hsum hsmR HSA
  have hwR : WfL R.br := by rw [hlike.br]; exact hwL
  have HOK := Lib.hid (fun y w h hc => implNetOk y R w h hsmR hc hwR)
  have HIN := Lib.hid (fun y w h hc => implFlitsInside y R w h hsmR hc hwR)
  have HWA := Lib.hid (fun y w h hc => implFlitsWaiting y R w h hsmR hc hwR)
  have hin : insideG R = 0 := by rw [insideG, if_pos hok2, hlike.bu, hinb]; rfl
  have hwa : waitingG R = lenTo D D.length := by rw [waitingG, if_pos hok2, hsum]
  rw [hok2] at HOK
  rw [hin] at HIN
  rw [hwa] at HWA
  have HID := Lib.hid (fun A c w (h : RecAt 5 pktC w w.heap.size A D.length D) => by have := implIdsDistinct A D.length c D w h (by omega) hwf.out; rw [hids.out] at this; exact this)
  have HNU := Lib.hid (fun A c w (h : RecAt 5 pktC w w.heap.size A D.length D) => implNumberPackets A D.length c D w h (by omega))
  have HID2 := Lib.hid (fun A c w (h : RecAt 5 pktC w w.heap.size A (numG D).length (numG D)) => by have := implIdsDistinct A (numG D).length c (numG D) w h (by rw [numG_length]; omega) (wf_of_num hwf.out (by omega)); rw [ids_of_num] at this; exact this)
  have F2 := Lib.hid (((fix_vrow ho2).al (.cells #[.int .i64 W, .int .i64 H, .slice none 0 0] 28)).al (.cells #[.slice Ap P.length cp, .slice Aq Q.length cq] 32))
  have FX := Lib.hid (((fix_row hox).al (.cells #[.int .i64 W, .int .i64 H, .slice none 0 0] 28)).al (.cells #[.slice Ap P.length cp, .slice Aq Q.length cq] 32))
  have BE := Lib.hid (hb2.trans (gb_below_none (gb_alloc (gb_alloc (gb_refl w2 none) (.cells #[.int .i64 W, .int .i64 H, .slice none 0 0] 28)) (.cells #[.slice Ap P.length cp, .slice Aq Q.length cq] 32)) (hb2.size)))
  clear hok hr1 hr4 hs1 hs4 ho2 hox hb2 htA htB hP hQ hcl hnn hok' hsz hsend hN hl1 hl2 WN hwL hall hlike hok2 hk2 hsum hsmR hsmN hR hwR hin hwa hinb hD hids hwf
  go_wp2_with fail
  refine (HNN.out _ (intAt_own F2.out.here.r rfl (Nat.le_refl _)) (intAt_own F2.out.here.c rfl (Nat.le_refl _))).mono ?_
  rintro e w3 ⟨y, rfl, o3, b3⟩
  have F3 := Lib.hid ((fix_net o3).al (.cells #[.int .i64 N.W, .int .i64 N.H, .slice y.br.A N.br.length y.br.c, .slice y.ta.A N.ta.length y.ta.c, .slice y.tb.A N.tb.length y.tb.c, .slice y.bu.A N.bu.length y.bu.c, .slice y.ow.A N.ow.length y.ow.c, .slice y.tu.A N.tu.length y.tu.c, .slice y.so.A N.so.length y.so.c, .slice y.ar.A N.ar.length y.ar.c, .int .i64 N.ti] 38))
  have R3 := Lib.hid (((Chg.refl 0 0 ((w2.alloc (.cells #[.int .i64 W, .int .i64 H, .slice none 0 0] 28)).alloc (.cells #[.slice Ap P.length cp, .slice Aq Q.length cq] 32))).bl b3).al (.cells #[.int .i64 N.W, .int .i64 N.H, .slice y.br.A N.br.length y.br.c, .slice y.ta.A N.ta.length y.ta.c, .slice y.tb.A N.tb.length y.tb.c, .slice y.bu.A N.bu.length y.bu.c, .slice y.ow.A N.ow.length y.ow.c, .slice y.tu.A N.tu.length y.tu.c, .slice y.so.A N.so.length y.so.c, .slice y.ar.A N.ar.length y.ar.c, .int .i64 N.ti] 38))
  have X3 := Lib.hid (FX.out.nx R3.out)
  have B3 := Lib.hid (BE.out.trans (R3.out.below (.inr (Nat.le_refl _)) BE.out.size))
  clear o3 b3
  go_wp2_with fail
  refine (HSA.out y Ax cx _ (F3.out.here.at (Nat.le_refl _)) F3.out.here.cap (recAt_own pktL (by decide) X3.out.here (Nat.le_refl _))).mono ?_
  rintro e w4 ⟨z, rfl, o4, b4⟩
  have F4 := Lib.hid ((fix_net o4).al (.cells #[.int .i64 R.W, .int .i64 R.H, .slice z.br.A R.br.length z.br.c, .slice z.ta.A R.ta.length z.ta.c, .slice z.tb.A R.tb.length z.tb.c, .slice z.bu.A R.bu.length z.bu.c, .slice z.ow.A R.ow.length z.ow.c, .slice z.tu.A R.tu.length z.tu.c, .slice z.so.A R.so.length z.so.c, .slice z.ar.A R.ar.length z.ar.c, .int .i64 R.ti] 38))
  have K4 := Lib.hid (Blk.new w4 38 #[.int .i64 R.W, .int .i64 R.H, .slice z.br.A R.br.length z.br.c, .slice z.ta.A R.ta.length z.ta.c, .slice z.tb.A R.tb.length z.tb.c, .slice z.bu.A R.bu.length z.bu.c, .slice z.ow.A R.ow.length z.ow.c, .slice z.tu.A R.tu.length z.tu.c, .slice z.so.A R.so.length z.so.c, .slice z.ar.A R.ar.length z.ar.c, .int .i64 R.ti])
  have R4 := Lib.hid ((chg_gb 0 0 (gb_of_below b4 none)).al (.cells #[.int .i64 R.W, .int .i64 R.H, .slice z.br.A R.br.length z.br.c, .slice z.ta.A R.ta.length z.ta.c, .slice z.tb.A R.tb.length z.tb.c, .slice z.bu.A R.bu.length z.bu.c, .slice z.ow.A R.ow.length z.ow.c, .slice z.tu.A R.tu.length z.tu.c, .slice z.so.A R.so.length z.so.c, .slice z.ar.A R.ar.length z.ar.c, .int .i64 R.ti] 38))
  have X4 := Lib.hid (X3.out.nx R4.out)
  have B4 := Lib.hid (B3.out.trans (R4.out.below (.inr (Nat.le_refl _)) B3.out.size))
  clear o4 b4
  go_wp2_with fail
  have hXR := Lib.hid (recAt_own pktL (by decide) X4.out.here (Nat.le_refl _))
  generalize w4.alloc (.cells #[.int .i64 R.W, .int .i64 R.H, .slice z.br.A R.br.length z.br.c, .slice z.ta.A R.ta.length z.ta.c, .slice z.tb.A R.tb.length z.tb.c, .slice z.bu.A R.bu.length z.bu.c, .slice z.ow.A R.ow.length z.ow.c, .slice z.tu.A R.tu.length z.tu.c, .slice z.so.A R.so.length z.so.c, .slice z.ar.A R.ar.length z.ar.c, .int .i64 R.ti] 38) = w5 at *
  obtain ⟨g4, hg4⟩ : ∃ g, w4.heap.size = g := ⟨_, rfl⟩
  have F4E := F4.out
  rw [hg4] at K4 F4E
  try rw [hg4]
  go_loopw [10, 11] (fun c i wr => ∃ k : Nat, i = .int .i64 (k : Int) ∧ k ≤ D.length ∧ c = .int .i64 (lenTo D k) ∧ wr = w5) (fun _ i _ => D.length - (intOf i).toNat)
  case atStart => exact ⟨0, rfl, Nat.zero_le _, by rw [lenTo_zero], rfl⟩
  case round =>
    obtain ⟨k, rfl, hk, rfl, rfl⟩ := hrel
    have hlk := len_le hD0.out k
    by_cases hlt : k < D.length
    · obtain ⟨b, off, p, rfl, _, hx, hc⟩ := hXR.out.at k hlt
      obtain ⟨c0, c1, c2, c3, c4⟩ := pkt_five hc
      have k0 : (0 : Int) ≤ (k : Int) := by omega
      have k1 : (k : Int) < (D.length : Int) := by omega
      have hln := (pktOk_iff.1 (hD0.out k p hx).1).2.2.2.2.2
      have hnx := lenTo_next hx
      have e1 : IntKind.i64.wrap ((k : Int) + 1) = ((k + 1 : Nat) : Int) := by rw [IntWalk.i64_in _ (by omega)]; omega
      have e2 : IntKind.i64.wrap (lenTo D k + p.ln) = lenTo D (k + 1) := by rw [hnx, IntWalk.i64_in _ (by omega)]
      have HLN := Lib.hid hln
      clear hx hc hnx hln hlk
      go_wp2_with fail
      go_roundw
      case rel => exact ⟨k + 1, by go_num, by omega, by first | rw [e2] | rfl, trivial⟩
      case measure => simp [intOf]; omega
    · obtain rfl : k = D.length := by omega
      have k1 : ¬ (D.length : Int) < (D.length : Int) := by omega
      obtain ⟨s9, hs9⟩ : ∃ s, lenTo D D.length = s := ⟨_, rfl⟩
      rw [hs9]
      rw [hs9] at HWA
      have a0 : wr.cell? ⟨g4, 0, none⟩ = some (.int .i64 R.W) := K4.out.cell 0
      have a1 : wr.cell? ⟨g4, 1, none⟩ = some (.int .i64 R.H) := K4.out.cell 1
      have a2 : wr.cell? ⟨g4, 2, none⟩ = some (.slice z.br.A R.br.length z.br.c) := K4.out.cell 2
      have a3 : wr.cell? ⟨g4, 3, none⟩ = some (.slice z.ta.A R.ta.length z.ta.c) := K4.out.cell 3
      have a4 : wr.cell? ⟨g4, 4, none⟩ = some (.slice z.tb.A R.tb.length z.tb.c) := K4.out.cell 4
      have a5 : wr.cell? ⟨g4, 5, none⟩ = some (.slice z.bu.A R.bu.length z.bu.c) := K4.out.cell 5
      have a6 : wr.cell? ⟨g4, 6, none⟩ = some (.slice z.ow.A R.ow.length z.ow.c) := K4.out.cell 6
      have a7 : wr.cell? ⟨g4, 7, none⟩ = some (.slice z.tu.A R.tu.length z.tu.c) := K4.out.cell 7
      have a8 : wr.cell? ⟨g4, 8, none⟩ = some (.slice z.so.A R.so.length z.so.c) := K4.out.cell 8
      have a9 : wr.cell? ⟨g4, 9, none⟩ = some (.slice z.ar.A R.ar.length z.ar.c) := K4.out.cell 9
      have a10 : wr.cell? ⟨g4, 10, none⟩ = some (.int .i64 R.ti) := K4.out.cell 10
      clear hlk hs9
      go_wp2_with fail
      refine (HOK.out z _ (F4E.here.at (Nat.le_refl _)) F4E.here.cap).mono ?_
      rintro e w6 ⟨rfl, g6⟩
      have K6 := Lib.hid (K4.out.grown g6 (by simp))
      have F6 := Lib.hid (F4.out.gb g6)
      have X6 := Lib.hid (X4.out.gb g6)
      have B6 := Lib.hid (B4.out.trans (gb_below_none g6 B4.out.size))
      clear a0 a1 a2 a3 a4 a5 a6 a7 a8 a9 a10
      have a0 : w6.cell? ⟨g4, 0, none⟩ = some (.int .i64 R.W) := K6.out.cell 0
      have a1 : w6.cell? ⟨g4, 1, none⟩ = some (.int .i64 R.H) := K6.out.cell 1
      have a2 : w6.cell? ⟨g4, 2, none⟩ = some (.slice z.br.A R.br.length z.br.c) := K6.out.cell 2
      have a3 : w6.cell? ⟨g4, 3, none⟩ = some (.slice z.ta.A R.ta.length z.ta.c) := K6.out.cell 3
      have a4 : w6.cell? ⟨g4, 4, none⟩ = some (.slice z.tb.A R.tb.length z.tb.c) := K6.out.cell 4
      have a5 : w6.cell? ⟨g4, 5, none⟩ = some (.slice z.bu.A R.bu.length z.bu.c) := K6.out.cell 5
      have a6 : w6.cell? ⟨g4, 6, none⟩ = some (.slice z.ow.A R.ow.length z.ow.c) := K6.out.cell 6
      have a7 : w6.cell? ⟨g4, 7, none⟩ = some (.slice z.tu.A R.tu.length z.tu.c) := K6.out.cell 7
      have a8 : w6.cell? ⟨g4, 8, none⟩ = some (.slice z.so.A R.so.length z.so.c) := K6.out.cell 8
      have a9 : w6.cell? ⟨g4, 9, none⟩ = some (.slice z.ar.A R.ar.length z.ar.c) := K6.out.cell 9
      have a10 : w6.cell? ⟨g4, 10, none⟩ = some (.int .i64 R.ti) := K6.out.cell 10
      go_wp2_with fail
      refine (HWA.out z _ (F6.out.here.at (Nat.le_refl _)) F6.out.here.cap).mono ?_
      rintro e w7 ⟨rfl, g7⟩
      have K7 := Lib.hid (K6.out.grown g7 (by simp))
      have F7 := Lib.hid (F6.out.gb g7)
      have X7 := Lib.hid (X6.out.gb g7)
      have B7 := Lib.hid (B6.out.trans (gb_below_none g7 B6.out.size))
      clear a0 a1 a2 a3 a4 a5 a6 a7 a8 a9 a10
      have a0 : w7.cell? ⟨g4, 0, none⟩ = some (.int .i64 R.W) := K7.out.cell 0
      have a1 : w7.cell? ⟨g4, 1, none⟩ = some (.int .i64 R.H) := K7.out.cell 1
      have a2 : w7.cell? ⟨g4, 2, none⟩ = some (.slice z.br.A R.br.length z.br.c) := K7.out.cell 2
      have a3 : w7.cell? ⟨g4, 3, none⟩ = some (.slice z.ta.A R.ta.length z.ta.c) := K7.out.cell 3
      have a4 : w7.cell? ⟨g4, 4, none⟩ = some (.slice z.tb.A R.tb.length z.tb.c) := K7.out.cell 4
      have a5 : w7.cell? ⟨g4, 5, none⟩ = some (.slice z.bu.A R.bu.length z.bu.c) := K7.out.cell 5
      have a6 : w7.cell? ⟨g4, 6, none⟩ = some (.slice z.ow.A R.ow.length z.ow.c) := K7.out.cell 6
      have a7 : w7.cell? ⟨g4, 7, none⟩ = some (.slice z.tu.A R.tu.length z.tu.c) := K7.out.cell 7
      have a8 : w7.cell? ⟨g4, 8, none⟩ = some (.slice z.so.A R.so.length z.so.c) := K7.out.cell 8
      have a9 : w7.cell? ⟨g4, 9, none⟩ = some (.slice z.ar.A R.ar.length z.ar.c) := K7.out.cell 9
      have a10 : w7.cell? ⟨g4, 10, none⟩ = some (.int .i64 R.ti) := K7.out.cell 10
      go_wp2_with fail
      refine (HIN.out z _ (F7.out.here.at (Nat.le_refl _)) F7.out.here.cap).mono ?_
      rintro e w8 ⟨rfl, g8⟩
      have K8 := Lib.hid (K7.out.grown g8 (by simp))
      have F8 := Lib.hid (F7.out.gb g8)
      have X8 := Lib.hid (X7.out.gb g8)
      have B8 := Lib.hid (B7.out.trans (gb_below_none g8 B7.out.size))
      clear a0 a1 a2 a3 a4 a5 a6 a7 a8 a9 a10
      go_wp2_with fail
      refine (HID.out Ax cx _ (recAt_own pktL (by decide) X8.out.here (Nat.le_refl _))).mono ?_
      rintro e w9 ⟨rfl, g9⟩
      have X9 := Lib.hid (X8.out.gb g9)
      have B9 := Lib.hid (B8.out.trans (gb_below_none g9 B8.out.size))
      go_wp2_with fail
      refine (HNU.out Ax cx _ (recAt_own pktL (by decide) X9.out.here (Nat.le_refl _))).mono ?_
      rintro e w10 ⟨v, rfl, o10, b10⟩
      obtain ⟨An, cn, rfl, _⟩ := own_form o10
      have B10 := Lib.hid (B9.out.trans (b10.mono B9.out.size))
      go_wp2_with fail
      refine (HID2.out An cn _ (recAt_own pktL (by decide) o10 (Nat.le_refl _))).mono ?_
      rintro e w11 ⟨rfl, g11⟩
      go_wp2_with fail
      go_ret
      exact ⟨rfl, B10.out.trans (gb_below_none g11 B10.out.size)⟩
end Go.Proofs.Ytfloekbmgjmhbaa
end
