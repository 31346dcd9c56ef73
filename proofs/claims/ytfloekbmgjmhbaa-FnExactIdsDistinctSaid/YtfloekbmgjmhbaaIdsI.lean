/- What is proved here: the program's IdsDistinct, by a map of the Ids that have been seen; nothing is written but new blocks. -/
import Derived.Test.YtfloekbmgjmhbaaIdsS
import Derived.Maps.OwnSet
import Derived.Maps.OwnOps
namespace Go.Proofs.Ytfloekbmgjmhbaa
open Go.ChangeShapes Go.WideShapes Go.ChangeAt Go.RowKit Go.Maps
set_option linter.unusedVariables false
set_option maxRecDepth 20000

theorem keyIdP : Keyed Try.prog 3 := int_keyed Try.underlying3
theorem bool_read {P : Program} {e : TypeId} (he : P.underlying e = some .bool) {v : Value} {z : DataW Unit × List MemPlace} (h : plainElem P e v = some z) : ∃ x, v = .bool x ∧ z = (.lit (.bool x), []) := by
  unfold plainElem at h
  rw [he] at h
  cases v with
  | bool x =>
    simp only [Option.some.injEq] at h
    exact ⟨x, rfl, h.symm⟩
  | _ => simp at h
/-- 'm[k]' at elements that are bools. -/
theorem wpList_look_bool {P : Program} (w : World) {ops : Array Oper} {rest : List Oper} {o : Oper} {a : Act} {Q : Exit → Act → World → Prop} (hg : o.guard = none) (m x : Operand) (t : TypeId) (hop : o.op = Op.lookup t m x false)
    (k e : TypeId) (K : Keyed P k) (ht : P.underlying t = some (.map k e)) (he : P.underlying e = some .bool) (hz : (zeroValue e).run P w = .ok (.bool false) w) (b n : Nat) (D : DataW Unit)
    (hm : a.eval m = .map (some b)) (hown : w.ownsMap P k (plainElem P e) b n D) (key : Value) (kl : Lit) (hx : a.eval x = key) (hkey : keyOf P k key = some kl) (c : Bool) (hc : D.atKey kl (.lit (.bool false)) = .lit (.bool c))
    (hK : wpList P ops Q rest (a.put o.dst (.bool c)) w) : wpList P ops Q (o :: rest) a w := by
  refine wpList_plain hg fun K' hK' => ?_
  obtain ⟨v, ps, hrun, hv⟩ := hown.lookup K ht hz (plainElem_bool he false) hkey
  obtain ⟨c', rfl, hc'⟩ := bool_read he hv
  have h1 := congrArg Prod.fst hc'
  simp only at h1
  rw [hc] at h1
  injection h1 with h2
  injection h2 with h3
  subst h3
  unfold Oper.wp
  simp [execOp, hop, hm, hx, hrun, Result.andThen]
  exact hK' _ _ hK
/-- Whether one of the first packets has an Id. -/
def seenB (D : List Pkt) (a : Nat) (x : Int) : Bool := (D.take a).any fun p => decide (p.id = x)
theorem seen_next {D : List Pkt} {a : Nat} {p : Pkt} (h : D[a]? = some p) (y : Int) : seenB D (a + 1) y = if y = p.id then true else seenB D a y := by
  have e : D.take (a + 1) = D.take a ++ [p] := by rw [List.take_add_one, h]; rfl
  rw [seenB, e, List.any_append]
  by_cases hy : y = p.id
  · rw [if_pos hy]; simp [hy]
  · rw [if_neg hy]
    have : ¬ p.id = y := fun e => hy e.symm
    simp [this, seenB]
def UniqP (D : List Pkt) (a : Nat) : Prop := ∀ i, i < a → ∀ k, k < i → (atP D i).id ≠ (atP D k).id
theorem seen_yes {D : List Pkt} {a : Nat} {p : Pkt} (h : D[a]? = some p) (hs : seenB D a p.id = true) : idsG D = false := by
  rw [seenB, List.any_eq_true] at hs
  obtain ⟨q, hq, he⟩ := hs
  obtain ⟨k, hk, e⟩ := List.getElem_of_mem hq
  have ha := (List.getElem?_eq_some_iff.1 h).1
  rw [List.length_take] at hk
  rw [List.getElem_take] at e
  have hqk : D[k]? = some q := List.getElem?_eq_some_iff.2 ⟨by omega, e⟩
  exact ids_no ha (show k < a by omega) (by rw [atP_of h, atP_of hqk]; exact (of_decide_eq_true he).symm)
theorem seen_no {D : List Pkt} {a : Nat} {p : Pkt} (h : D[a]? = some p) (hs : seenB D a p.id = false) (hu : UniqP D a) : UniqP D (a + 1) := by
  intro i hi k hk
  rcases Nat.lt_or_ge i a with h1 | h1
  · exact hu i h1 k hk
  · obtain rfl : i = a := by omega
    intro e
    have ha := (List.getElem?_eq_some_iff.1 h).1
    have hq : D[k]? = some D[k] := List.getElem?_eq_getElem (by omega)
    rw [atP_of h, atP_of hq] at e
    have : seenB D i p.id = true := by
      rw [seenB, List.any_eq_true]
      exact ⟨D[k], List.mem_of_getElem? (i := k) (by rw [List.getElem?_take, if_pos hk]; exact hq), decide_eq_true e.symm⟩
    rw [hs] at this
    cases this
/-- Block b is a map from numbers to bools that says what f says. -/
def IdsAt (w : World) (b n : Nat) (f : Int → Bool) : Prop := ∃ D : DataW Unit, w.ownsMap Try.prog 3 (plainElem Try.prog 4) b n D ∧ ∀ x, D.atKey (.int .i64 x) (.lit (.bool false)) = .lit (.bool (f x))
theorem IdsAt.made (w : World) : IdsAt (w.alloc (.map #[] 0)) w.heap.size 0 (fun _ => false) := ⟨.map [], World.ownsMap_made _ _ _ _, fun x => rfl⟩
set_option maxHeartbeats 1600000 in
theorem implIdsDistinct (A : Option Addr) (n cap : Nat) (D : List Pkt) (w : World) (h : RecAt 5 pktC w w.heap.size A n D) (hn : n ≤ 1000000000) (hw : ∀ p ∈ D, wfP p) :
    Calls Try.prog 14 #[.slice A n cap] w (RetB (idsG D) w) := by
  have HI := Lib.hid h
  have hl := h.1
  have HW := Lib.hid hw
  have HYES := Lib.hid (fun hu : UniqP D n => ids_yes (D := D) (by rw [hl]; exact hu))
  have HNO := Lib.hid (fun (a : Nat) p (h : D[a]? = some p) hs => seen_yes h hs)
  obtain ⟨r, hr⟩ : ∃ r, idsG D = r := ⟨_, rfl⟩
  rw [hr] at HNO HYES
  rw [hr]
  have hmm := @run_makeMap Try.prog
  have I0 := Lib.hid (IdsAt.made w)
  have B0 := Lib.hid ((Below.refl w.heap.size w).alloc (Nat.le_refl _) (.map #[] 0))
  clear h hw hr
  go_enter Try.func14, Try.ntmps14
  go_wp2_with fail
  go_loopw [9] (fun i wr => ∃ a : Nat, i = .int .i64 (a : Int) ∧ a ≤ n ∧ UniqP D a ∧ IdsAt wr w.heap.size a (seenB D a) ∧ Below w.heap.size w wr) (fun i _ => n - (intOf i).toNat)
  case atStart => exact ⟨0, rfl, Nat.zero_le _, fun i hi => by omega, I0.out, B0.out⟩
  case round =>
    obtain ⟨a, rfl, ha, hu, hm, hb⟩ := hrel
    have HU := Lib.hid hu
    have HB := Lib.hid hb
    by_cases hlt : a < n
    · obtain ⟨M, hown, hat⟩ := hm
      obtain ⟨g, o, p, rfl, _, hx, hc⟩ := (HI.out.below hb).at a hlt
      obtain ⟨c0, c1, c2, c3, c4⟩ := pkt_five hc
      have k0 : (0 : Int) ≤ (a : Int) := by omega
      have k1 : (a : Int) < (n : Int) := by omega
      have e1 : IntKind.i64.wrap ((a : Int) + 1) = ((a + 1 : Nat) : Int) := by rw [IntWalk.i64_in _ (by omega)]; omega
      have HX := Lib.hid hx
      have HK := Lib.hid (keyOf_int_mk Try.underlying3 (HW.out p (List.mem_of_getElem? hx)).1)
      have HO := Lib.hid hown
      have HAT := Lib.hid hat
      obtain ⟨b, hbb⟩ : ∃ b, seenB D a p.id = b := ⟨_, rfl⟩
      have HBB := Lib.hid hbb
      have HC := Lib.hid (show M.atKey (.int .i64 p.id) (.lit (.bool false)) = .lit (.bool b) by rw [hat, hbb])
      clear hu hb hc hx hown hat hbb
      cases b with
      | true =>
        have HR := Lib.hid (HNO.out a p HX.out HBB.out)
        go_wp2_with (at_lookup; refine wpList_look_bool _ rfl _ _ 85 rfl 3 4 keyIdP Try.underlying85 Try.underlying4 (by kernel_rfl) w.heap.size a M rfl (HO.out.alloc _) _ _ rfl HK.out true HC.out ?_)
        go_ret
        exact ⟨ret_bool HR.out.symm, gb_alloc (gb_of_below HB.out none) _⟩
      | false =>
        go_wp2_with (first
          | (at_lookup; refine wpList_look_bool _ rfl _ _ 85 rfl 3 4 keyIdP Try.underlying85 Try.underlying4 (by kernel_rfl) w.heap.size a M rfl (HO.out.alloc _) _ _ rfl HK.out false HC.out ?_)
          | (at_mapUpdate; refine wpList_mapUpdate_own _ rfl _ _ _ 85 rfl 3 4 keyIdP Try.underlying85 (plainElem Try.prog 4) w.heap.size a M rfl (HO.out.alloc _) (by unfold maxLen; omega) _ _ _ rfl rfl HK.out (.lit (.bool true)) [] (plainElem_bool Try.underlying4 true) ?_; intro w1 hown1 hg1; have HO1 := Lib.hid hown1; have HG1 := Lib.hid hg1; clear hown1 hg1))
        go_roundw
        case rel => exact ⟨a + 1, by go_num, by omega, seen_no HX.out HBB.out HU.out, ⟨_, HO1.out, fun y => by
            rw [seen_next HX.out]
            by_cases hy : y = p.id
            · rw [if_pos hy, hy, atKey_put_same HO.out.isMap (by trivial)]
            · rw [if_neg hy, atKey_put_other (by simpa using hy), HAT.out]⟩, (HB.out.alloc HB.out.size _).grown HG1.out (by rw [alloc_size]; have := HB.out.size; omega) (fun j e => by cases e; exact Nat.le_refl _)⟩
        case measure => simp [intOf]; omega
    · obtain rfl : a = n := by omega
      have k1 : ¬ (a : Int) < (a : Int) := by omega
      have HR := Lib.hid (HYES.out HU.out)
      clear hu hm hb
      go_wp2_with fail
      go_ret
      exact ⟨ret_bool HR.out.symm, gb_of_below HB.out none⟩
end Go.Proofs.Ytfloekbmgjmhbaa
