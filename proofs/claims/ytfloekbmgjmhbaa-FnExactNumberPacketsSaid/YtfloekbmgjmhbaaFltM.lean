/- What is proved here: packets and flits as mathematics, and how they are laid out as cells; nothing of the program. -/
import Derived.Test.YtfloekbmgjmhbaaRecM
import Derived.Test.YtfloekbmgjmhbaaGridM
namespace Go.Proofs.Ytfloekbmgjmhbaa
open Go.ChangeShapes Go.WideShapes Go.ChangeAt Go.RowKit
set_option linter.unusedVariables false

structure Pkt where
  id : Int
  fr : Int
  to : Int
  cl : Int
  ln : Int
structure Flt where
  pk : Int
  to : Int
  cl : Int
  hd : Bool
  tl : Bool
theorem Flt.ext' {a b : Flt} (h1 : a.pk = b.pk) (h2 : a.to = b.to) (h3 : a.cl = b.cl) (h4 : a.hd = b.hd) (h5 : a.tl = b.tl) : a = b := by
  obtain ⟨a1, a2, a3, a4, a5⟩ := a
  obtain ⟨b1, b2, b3, b4, b5⟩ := b
  simp only at h1 h2 h3 h4 h5
  subst h1 h2 h3 h4 h5
  rfl
instance : DecidableEq Flt := fun a b => decidable_of_iff (a.pk = b.pk ∧ a.to = b.to ∧ a.cl = b.cl ∧ a.hd = b.hd ∧ a.tl = b.tl) ⟨fun h => Flt.ext' h.1 h.2.1 h.2.2.1 h.2.2.2.1 h.2.2.2.2, fun h => by subst h; exact ⟨rfl, rfl, rfl, rfl, rfl⟩⟩
def fltC (x : Flt) : List Value := [.int .i64 x.pk, .int .i64 x.to, .int .i64 x.cl, .bool x.hd, .bool x.tl]
abbrev fltX (x : Flt) : Value := .agg #[.int .i64 x.pk, .int .i64 x.to, .int .i64 x.cl, .bool x.hd, .bool x.tl]
theorem fltL : Lay 5 fltC := ⟨fun x => rfl, fun x v hv => by
  simp only [fltC, List.mem_cons, List.not_mem_nil, or_false] at hv
  rcases hv with rfl | rfl | rfl | rfl | rfl <;> rfl⟩
def pktC (p : Pkt) : List Value := [.int .i64 p.id, .int .i64 p.fr, .int .i64 p.to, .int .i64 p.cl, .int .i64 p.ln]
abbrev pktX (p : Pkt) : Value := .agg #[.int .i64 p.id, .int .i64 p.fr, .int .i64 p.to, .int .i64 p.cl, .int .i64 p.ln]
theorem pktL : Lay 5 pktC := ⟨fun x => rfl, fun x v hv => by
  simp only [pktC, List.mem_cons, List.not_mem_nil, or_false] at hv
  rcases hv with rfl | rfl | rfl | rfl | rfl <;> rfl⟩
def wfF (x : Flt) : Prop := (Lit.int .i64 x.pk).wf = true ∧ (Lit.int .i64 x.to).wf = true ∧ (Lit.int .i64 x.cl).wf = true
def wfP (p : Pkt) : Prop := (Lit.int .i64 p.id).wf = true ∧ (Lit.int .i64 p.fr).wf = true ∧ (Lit.int .i64 p.to).wf = true ∧ (Lit.int .i64 p.cl).wf = true ∧ (Lit.int .i64 p.ln).wf = true
def flt0 : Flt := ⟨0, 0, 0, false, false⟩
def atF (D : List Flt) (k : Nat) : Flt := D.getD k flt0
theorem atF_get {D : List Flt} {k : Nat} (h : k < D.length) : D[k]? = some (atF D k) := by
  rw [atF, List.getD_eq_getElem?_getD, List.getElem?_eq_getElem h]; rfl
theorem atF_of {D : List Flt} {k : Nat} {x : Flt} (h : D[k]? = some x) : atF D k = x := by
  rw [atF, List.getD_eq_getElem?_getD, h]; rfl

/-- Valid packets and their flits. -/
def pktOk (W H : Int) (p : Pkt) : Bool := decide (1 ≤ p.id ∧ p.id ≤ 9999) && (hasG W H p.fr && (hasG W H p.to && (decide (p.fr ≠ p.to) && (decide (0 ≤ p.cl ∧ p.cl ≤ 1) && decide (1 ≤ p.ln ∧ p.ln ≤ 5)))))
theorem pktOk_iff {W H : Int} {p : Pkt} : pktOk W H p = true ↔ (1 ≤ p.id ∧ p.id ≤ 9999) ∧ hasG W H p.fr = true ∧ hasG W H p.to = true ∧ p.fr ≠ p.to ∧ (0 ≤ p.cl ∧ p.cl ≤ 1) ∧ (1 ≤ p.ln ∧ p.ln ≤ 5) := by
  simp [pktOk]
def flitAt (p : Pkt) (i : Nat) : Flt := ⟨p.id, p.to, p.cl, decide (i = 0), decide ((i : Int) = p.ln - 1)⟩
def flitsTo (p : Pkt) (k : Nat) : List Flt := (List.range k).map (flitAt p)
theorem flitsTo_length (p : Pkt) (k : Nat) : (flitsTo p k).length = k := by simp [flitsTo]
theorem flitsTo_next (p : Pkt) (k : Nat) : flitsTo p (k + 1) = flitsTo p k ++ [flitAt p k] := by
  unfold flitsTo
  rw [List.range_succ, List.map_append]
  rfl
theorem flitsTo_at {p : Pkt} {k i : Nat} (h : i < k) : (flitsTo p k)[i]? = some (flitAt p i) := by
  simp [flitsTo, h]
def flitsG (W H : Int) (p : Pkt) : List Flt := if pktOk W H p = true then flitsTo p p.ln.toNat else []
theorem flitsG_no {W H : Int} {p : Pkt} (h : pktOk W H p = false) : flitsG W H p = [] := if_neg (by simp [h])
theorem flitsG_yes {W H : Int} {p : Pkt} (h : pktOk W H p = true) : flitsG W H p = flitsTo p p.ln.toNat := if_pos h
theorem flitsG_len (W H : Int) (p : Pkt) : (flitsG W H p).length ≤ 5 := by
  cases h : pktOk W H p with
  | false => rw [flitsG_no h]; simp
  | true =>
    rw [flitsG_yes h, flitsTo_length]
    have := (pktOk_iff.1 h).2.2.2.2.2
    omega
/-- The element i of a list fits a whole packet. -/
def wholeAt (D : List Flt) (i : Nat) : Bool := decide ((atF D i).pk = (atF D 0).pk ∧ (atF D i).to = (atF D 0).to ∧ (atF D i).cl = (atF D 0).cl ∧ (atF D i).hd = decide (i = 0) ∧ (atF D i).tl = decide (i + 1 = D.length))
def wholeG (D : List Flt) : Bool := (List.range D.length).all (wholeAt D) && decide (0 < D.length)
theorem whole_nil : wholeG [] = false := rfl
theorem whole_no {D : List Flt} {i : Nat} (hi : i < D.length) (h : wholeAt D i = false) : wholeG D = false := by
  cases hw : wholeG D with
  | false => rfl
  | true =>
    simp only [wholeG, Bool.and_eq_true, List.all_eq_true, List.mem_range] at hw
    rw [hw.1 i hi] at h; cases h
theorem whole_yes {D : List Flt} (hp : 0 < D.length) (h : ∀ i, i < D.length → wholeAt D i = true) : wholeG D = true := by
  simp only [wholeG, Bool.and_eq_true, List.all_eq_true, List.mem_range]
  exact ⟨h, decide_eq_true hp⟩
theorem whole_iff {D : List Flt} : wholeG D = true ↔ 0 < D.length ∧ ∀ i, i < D.length → wholeAt D i = true := by
  constructor
  · intro hw
    simp only [wholeG, Bool.and_eq_true, List.all_eq_true, List.mem_range] at hw
    exact ⟨of_decide_eq_true hw.2, hw.1⟩
  · exact fun h => whole_yes h.1 h.2
/-- How many packets end in a list. -/
def tailsN (D : List Flt) : Nat := (D.filter (·.tl)).length
theorem tails_zero (D : List Flt) : tailsN (D.take 0) = 0 := by simp [tailsN]
theorem tails_le (D : List Flt) : tailsN D ≤ D.length := List.length_filter_le _ _
theorem tails_next {D : List Flt} {k : Nat} {x : Flt} (h : D[k]? = some x) : tailsN (D.take (k + 1)) = tailsN (D.take k) + (if x.tl then 1 else 0) := by
  have hk := (List.getElem?_eq_some_iff.1 h).1
  rw [List.take_succ_eq_append_getElem hk, tailsN, tailsN, List.filter_append, List.length_append]
  have e : D[k] = x := (List.getElem?_eq_some_iff.1 h).2
  rw [e]
  cases hx : x.tl <;> simp [hx]
theorem tails_all (D : List Flt) : tailsN (D.take D.length) = tailsN D := by rw [List.take_length]
def sameF (D E : List Flt) : Bool := decide (D = E)
theorem same_no {D E : List Flt} {i : Nat} (h : atF D i ≠ atF E i) : sameF D E = false := decide_eq_false (fun e => h (by rw [e]))
theorem same_len {D E : List Flt} (h : D.length ≠ E.length) : sameF D E = false := decide_eq_false (fun e => h (by rw [e]))
theorem same_yes {D E : List Flt} (hl : D.length = E.length) (h : ∀ i, i < D.length → atF D i = atF E i) : sameF D E = true := by
  refine decide_eq_true (List.ext_getElem? fun i => ?_)
  by_cases hi : i < D.length
  · rw [atF_get hi, atF_get (hl ▸ hi), h i hi]
  · rw [List.getElem?_eq_none (by omega), List.getElem?_eq_none (by omega)]
end Go.Proofs.Ytfloekbmgjmhbaa
