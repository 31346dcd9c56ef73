/- What is proved here: the state of a network as mathematics; nothing of the program. -/
import Derived.Test.YtffnbmaoainhmaaFssE
import Derived.Test.YtffnbmaoainhmaaClD
namespace Go.Proofs.Ytffnbmaoainhmaa
open Go.ChangeShapes Go.WideShapes Go.ChangeAt Go.RowKit
set_option linter.unusedVariables false

def bufN (n p c : Int) : Int := if (0 ≤ n ∧ n ≤ 15) ∧ (0 ≤ p ∧ p ≤ 4) ∧ (0 ≤ c ∧ c ≤ 1) then (5 * n + p) * 2 + c else -1
structure Nt where
  W : Int
  H : Int
  br : List Int
  ta : List Int
  tb : List Int
  bu : List (List Flt)
  ow : List Int
  tu : List Int
  so : List (List Flt)
  ar : List (List Flt)
  ti : Int
/-- A flit, a list of flits, a buffer, a source. -/
def fltOk (W H : Int) (x : Flt) : Bool := hasG W H x.to && decide (0 ≤ x.cl ∧ x.cl ≤ 1)
def lstOk (W H : Int) (D : List Flt) : Bool := D.all (fltOk W H)
theorem lstOk_nil (W H : Int) : lstOk W H [] = true := rfl
theorem lstOk_take {W H : Int} {D : List Flt} {k : Nat} {x : Flt} (h : D[k]? = some x) : lstOk W H (D.take (k + 1)) = (lstOk W H (D.take k) && fltOk W H x) := by
  have hk := (List.getElem?_eq_some_iff.1 h).1
  have e : D[k] = x := (List.getElem?_eq_some_iff.1 h).2
  rw [List.take_succ_eq_append_getElem hk, e, lstOk, List.all_append]
  simp [lstOk]
theorem lstOk_no {W H : Int} {D : List Flt} {k : Nat} {x : Flt} (h : D[k]? = some x) (hf : fltOk W H x = false) : lstOk W H D = false := by
  cases ha : lstOk W H D with
  | false => rfl
  | true =>
    rw [lstOk, List.all_eq_true] at ha
    rw [ha x (List.mem_of_getElem? h)] at hf
    cases hf
theorem lstOk_yes {W H : Int} {D : List Flt} (h : ∀ (k : Nat) x, D[k]? = some x → fltOk W H x = true) : lstOk W H D = true := by
  rw [lstOk, List.all_eq_true]
  intro x hx
  obtain ⟨k, hk, e⟩ := List.getElem_of_mem hx
  exact h k x (by rw [List.getElem?_eq_getElem hk, e])
def bufOk (W H : Int) (i : Nat) (D : List Flt) (o : Int) : Bool := decide (D.length ≤ 3) && (lstOk W H D && (decide (-1 ≤ o ∧ o ≤ 4) && D.all fun x => decide (x.cl = ((i % 2 : Nat) : Int))))
def srcOk (W H : Int) (D : List Flt) : Bool := decide (D.length ≤ 60) && lstOk W H D
def sizesN (N : Nt) : Bool := decide (((N.bu.length : Nat) : Int) = 10 * countG N.W N.H ∧ ((N.ow.length : Nat) : Int) = 10 * countG N.W N.H ∧ ((N.tu.length : Nat) : Int) = 5 * countG N.W N.H ∧ ((N.so.length : Nat) : Int) = countG N.W N.H ∧ ((N.ar.length : Nat) : Int) = countG N.W N.H ∧ (0 ≤ N.ti ∧ N.ti ≤ 1000000))
def netOk (N : Nt) : Bool := clsOk N.W N.H N.br N.ta N.tb && (sizesN N && ((List.range N.bu.length).all (fun i => bufOk N.W N.H i (N.bu.getD i []) (N.ow.getD i 0)) && (N.tu.all (fun t => decide (0 ≤ t ∧ t ≤ 9)) && N.so.all (srcOk N.W N.H))))
def insideG (N : Nt) : Int := if netOk N = true then (sumL N.bu : Int) else -1
def waitingG (N : Nt) : Int := if netOk N = true then (sumL N.so : Int) else -1
/-- The new network. -/
def newNet (W H : Int) (L P Q : List Int) : Nt := ⟨W, H, L, P, Q, List.replicate (10 * (countG W H).toNat) [], List.replicate (10 * (countG W H).toNat) (-1), List.replicate (5 * (countG W H).toNat) 0, List.replicate (countG W H).toNat [], List.replicate (countG W H).toNat [], 0⟩
def zeroNet : Nt := ⟨0, 0, [], [], [], [], [], [], [], [], 0⟩
def netNewG (W H : Int) (L P Q : List Int) : Nt := if clsOk W H L P Q = true then newNet W H L P Q else zeroNet
theorem newNet_ok {W H : Int} {L P Q : List Int} (h : clsOk W H L P Q = true) : netOk (newNet W H L P Q) = true := by
  have hc := (countG_le W H).1
  have hs : sizesN (newNet W H L P Q) = true := decide_eq_true (by simp only [newNet, List.length_replicate]; omega)
  have hb : (List.range (newNet W H L P Q).bu.length).all (fun i => bufOk W H i ((newNet W H L P Q).bu.getD i []) ((newNet W H L P Q).ow.getD i 0)) = true := by
    rw [List.all_eq_true]
    intro i hi
    have hi' : i < 10 * (countG W H).toNat := by simpa [newNet] using List.mem_range.1 hi
    simp only [newNet]
    rw [List.getD_eq_getElem?_getD, List.getD_eq_getElem?_getD, List.getElem?_replicate, List.getElem?_replicate, if_pos hi', if_pos hi']
    rfl
  have ht : (newNet W H L P Q).tu.all (fun t => decide (0 ≤ t ∧ t ≤ 9)) = true := by
    rw [List.all_eq_true]
    intro x hx
    rw [List.eq_of_mem_replicate hx]
    rfl
  have hso : (newNet W H L P Q).so.all (srcOk W H) = true := by
    rw [List.all_eq_true]
    intro x hx
    rw [List.eq_of_mem_replicate hx]
    rfl
  show (clsOk W H L P Q && (sizesN (newNet W H L P Q) && _)) = true
  rw [h, hs]
  show ((List.range (newNet W H L P Q).bu.length).all (fun i => bufOk W H i ((newNet W H L P Q).bu.getD i []) ((newNet W H L P Q).ow.getD i 0)) && ((newNet W H L P Q).tu.all (fun t => decide (0 ≤ t ∧ t ≤ 9)) && (newNet W H L P Q).so.all (srcOk W H))) = true
  rw [hb, ht, hso]
  rfl
theorem sumL_rep (n : Nat) : sumL (List.replicate n []) = 0 := by
  induction n with
  | zero => rfl
  | succ n ih => rw [List.replicate_succ, sumL, List.map_cons, List.sum_cons]; rw [sumL] at ih; rw [ih]; rfl
theorem newNet_inside {W H : Int} {L P Q : List Int} (h : clsOk W H L P Q = true) : insideG (newNet W H L P Q) = 0 ∧ waitingG (newNet W H L P Q) = 0 := by
  constructor
  · rw [insideG, if_pos (newNet_ok h)]; simp [newNet, sumL_rep]
  · rw [waitingG, if_pos (newNet_ok h)]; simp [newNet, sumL_rep]
end Go.Proofs.Ytffnbmaoainhmaa
