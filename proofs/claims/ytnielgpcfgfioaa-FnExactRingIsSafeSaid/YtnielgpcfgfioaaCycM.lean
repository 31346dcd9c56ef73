/- What is proved here: walks along dependencies as mathematics: numbers of steps, least numbers of steps, that they are at most 128, that either an order or a cycle exists; nothing of the program. -/
import Derived.Test.YtnielgpcfgfioaaOrdM
namespace Go.Proofs.Ytnielgpcfgfioaa
open Go.ChangeShapes Go.WideShapes Go.ChangeAt Go.RowKit
set_option linter.unusedVariables false

/-- An element leads from a to b. -/
def edgeB (D : List Dep) (a b : Nat) : Bool := D.any fun d => decide (d.1 = (a : Int)) && decide (d.2 = (b : Int))
theorem edge_iff {D : List Dep} {a b : Nat} : edgeB D a b = true ↔ ((a : Int), (b : Int)) ∈ D := by
  unfold edgeB
  rw [List.any_eq_true]
  constructor
  · rintro ⟨d, hd, h⟩
    simp only [Bool.and_eq_true, decide_eq_true_eq] at h
    have : d = ((a : Int), (b : Int)) := Prod.ext h.1 h.2
    rwa [this] at hd
  · exact fun h => ⟨_, h, by simp⟩
theorem edge_lt {D : List Dep} (hD : okD D = true) {a b : Nat} (h : edgeB D a b = true) : a < 128 ∧ b < 128 := by
  have h1 := inD_iff.1 (okD_in hD (edge_iff.1 h))
  exact ⟨by have := h1.2.1; simp only at this; omega, by have := h1.2.2.2; simp only at this; omega⟩
theorem edge_succ {D : List Dep} {a b : Nat} : edgeB D a b = true ↔ (b : Int) ∈ succD D (a : Int) := by
  rw [edge_iff]
  unfold succD
  rw [List.mem_map]
  constructor
  · exact fun h => ⟨_, List.mem_filter.2 ⟨h, by simp⟩, rfl⟩
  · rintro ⟨d, hd, he⟩
    obtain ⟨h1, h2⟩ := List.mem_filter.1 hd
    have h3 : d.1 = (a : Int) := by simpa using h2
    have : d = ((a : Int), (b : Int)) := Prod.ext h3 he
    rwa [this] at h1
theorem succ_in {D : List Dep} (hD : okD D = true) {c x : Int} (h : x ∈ succD D c) : 0 ≤ x ∧ x < 128 := by
  unfold succD at h
  obtain ⟨d, hd, rfl⟩ := List.mem_map.1 h
  have h1 := inD_iff.1 (okD_in hD (List.mem_filter.1 hd).1)
  omega

/-- n elements, one behind the other, lead from a to b. -/
def wayB (D : List Dep) (a : Nat) : Nat → Nat → Bool
  | 0, b => decide (b = a)
  | n + 1, b => (List.range 128).any fun u => wayB D a n u && edgeB D u b
theorem wayB_zero {D : List Dep} {a b : Nat} : wayB D a 0 b = true ↔ b = a := by simp [wayB]
theorem wayB_next {D : List Dep} (hD : okD D = true) {a n b : Nat} : wayB D a (n + 1) b = true ↔ ∃ u, wayB D a n u = true ∧ edgeB D u b = true := by
  rw [wayB, List.any_eq_true]
  constructor
  · rintro ⟨u, hu, h⟩
    rw [Bool.and_eq_true] at h
    exact ⟨u, h⟩
  · rintro ⟨u, h1, h2⟩
    exact ⟨u, List.mem_range.2 (edge_lt hD h2).1, by rw [h1, h2]; rfl⟩
theorem way_one {D : List Dep} (hD : okD D = true) {a b : Nat} : wayB D a 1 b = true ↔ edgeB D a b = true := by
  rw [wayB_next hD]
  exact ⟨fun ⟨u, h1, h2⟩ => by rw [wayB_zero.1 h1] at h2; exact h2, fun h => ⟨a, wayB_zero.2 rfl, h⟩⟩
theorem way_lt {D : List Dep} (hD : okD D = true) {a n b : Nat} (hn : 1 ≤ n) (h : wayB D a n b = true) : b < 128 := by
  obtain ⟨m, rfl⟩ : ∃ m, n = m + 1 := ⟨n - 1, by omega⟩
  obtain ⟨u, _, h2⟩ := (wayB_next hD).1 h
  exact (edge_lt hD h2).2
theorem way_from {D : List Dep} (hD : okD D = true) {a : Nat} : ∀ {n b : Nat}, 1 ≤ n → wayB D a n b = true → a < 128
  | 0, b, hn, h => by omega
  | 1, b, _, h => (edge_lt hD ((way_one hD).1 h)).1
  | n + 2, b, _, h => by
    obtain ⟨u, h1, _⟩ := (wayB_next hD).1 h
    exact way_from hD (n := n + 1) (by omega) h1
theorem way_add {D : List Dep} (hD : okD D = true) {a b : Nat} {n : Nat} (h : wayB D a n b = true) : ∀ {m c : Nat}, wayB D b m c = true → wayB D a (n + m) c = true
  | 0, c, k => by rw [wayB_zero.1 k]; exact h
  | m + 1, c, k => by
    obtain ⟨u, h1, h2⟩ := (wayB_next hD).1 k
    exact (wayB_next hD).2 ⟨u, way_add hD h h1, h2⟩
theorem way_split {D : List Dep} (hD : okD D = true) {a n : Nat} : ∀ {m c : Nat}, wayB D a (n + m) c = true → ∃ b, wayB D a n b = true ∧ wayB D b m c = true
  | 0, c, h => ⟨c, h, wayB_zero.2 rfl⟩
  | m + 1, c, h => by
    obtain ⟨u, h1, h2⟩ := (wayB_next hD).1 (show wayB D a ((n + m) + 1) c = true from h)
    obtain ⟨b, h3, h4⟩ := way_split hD h1
    exact ⟨b, h3, (wayB_next hD).2 ⟨u, h4, h2⟩⟩
theorem way_head {D : List Dep} (hD : okD D = true) {a n c : Nat} (h : wayB D a (n + 1) c = true) : ∃ s, edgeB D a s = true ∧ wayB D s n c = true := by
  rw [Nat.add_comm] at h
  obtain ⟨b, h1, h2⟩ := way_split hD h
  exact ⟨b, (way_one hD).1 h1, h2⟩
theorem way_cons {D : List Dep} (hD : okD D = true) {a s n c : Nat} (h : edgeB D a s = true) (k : wayB D s n c = true) : wayB D a (n + 1) c = true := by
  rw [Nat.add_comm]
  exact way_add hD ((way_one hD).2 h) k

/-- The first level, from 1 on, at which b is reached. -/
def fstB (D : List Dep) (a n b : Nat) : Prop := wayB D a n b = true ∧ ∀ m, 1 ≤ m → m < n → wayB D a m b = false
/-- The least number of elements, at least 1, that lead from a to b; 0 if there are none. -/
def isDist (D : List Dep) (a b n : Nat) : Prop := (n = 0 ∧ ∀ m, 1 ≤ m → wayB D a m b = false) ∨ (1 ≤ n ∧ fstB D a n b)
theorem dist_uniq {D : List Dep} {a b n m : Nat} (h : isDist D a b n) (k : isDist D a b m) : n = m := by
  rcases h with ⟨h1, h2⟩ | ⟨h1, h2, h3⟩
  · rcases k with ⟨k1, k2⟩ | ⟨k1, k2, k3⟩
    · omega
    · rw [h2 m k1] at k2; cases k2
  · rcases k with ⟨k1, k2⟩ | ⟨k1, k2, k3⟩
    · rw [k2 n h1] at h2; cases h2
    · rcases Nat.lt_trichotomy n m with h4 | h4 | h4
      · rw [k3 n h1 h4] at h2; cases h2
      · exact h4
      · rw [h3 m k1 h4] at k2; cases k2
theorem fst_ex {D : List Dep} {a b : Nat} : ∀ {n : Nat}, 1 ≤ n → wayB D a n b = true → ∃ m, 1 ≤ m ∧ m ≤ n ∧ fstB D a m b := by
  intro n
  induction n using Nat.strongRecOn with
  | ind n ih =>
    intro hn h
    by_cases hx : ∃ m, 1 ≤ m ∧ m < n ∧ wayB D a m b = true
    · obtain ⟨m, h1, h2, h3⟩ := hx
      obtain ⟨k, k1, k2, k3⟩ := ih m h2 h1 h3
      exact ⟨k, k1, by omega, k3⟩
    · exact ⟨n, hn, Nat.le_refl _, h, fun m h1 h2 => by
        cases hw : wayB D a m b with
        | false => rfl
        | true => exact absurd ⟨m, h1, h2, hw⟩ hx⟩
/-- A channel at a level has one ahead of it at the level before. -/
def levB (D : List Dep) (a n b : Nat) : Prop := if n = 0 then b = a else fstB D a n b
theorem fst_back {D : List Dep} (hD : okD D = true) {a n b : Nat} (h : fstB D a (n + 1) b) : ∃ u, levB D a n u ∧ edgeB D u b = true := by
  obtain ⟨u, h1, h2⟩ := (wayB_next hD).1 h.1
  refine ⟨u, ?_, h2⟩
  unfold levB
  split
  · rename_i h0
    subst h0
    exact wayB_zero.1 h1
  · rename_i h0
    refine ⟨h1, fun m hm hmn => ?_⟩
    cases hw : wayB D a m u with
    | false => rfl
    | true =>
      have := h.2 (m + 1) (by omega) (by omega)
      rw [(wayB_next hD).2 ⟨u, hw, h2⟩] at this
      cases this
theorem pigeon : ∀ (n : Nat) (l : List Nat), l.Nodup → (∀ x ∈ l, x < n) → l.length ≤ n
  | 0, l, _, h => by
    cases l with
    | nil => exact Nat.le_refl _
    | cons x l => have := h x (List.mem_cons_self ..); omega
  | n + 1, l, hl, h => by
    by_cases hm : n ∈ l
    · have h1 := pigeon n (l.erase n) (hl.erase n) (fun x hx => by
        have h2 := (List.Nodup.mem_erase_iff hl).1 hx
        have := h x h2.2
        omega)
      rw [List.length_erase_of_mem hm] at h1
      have : 0 < l.length := List.length_pos_of_mem hm
      omega
    · have := pigeon n l hl (fun x hx => by
        have h2 := h x hx
        have h3 : x ≠ n := fun e => hm (e ▸ hx)
        omega)
      omega
theorem fst_chain {D : List Dep} (hD : okD D = true) {a : Nat} : ∀ {n b : Nat}, 1 ≤ n → fstB D a n b → ∃ l : List Nat, l.Nodup ∧ l.length = n ∧ ∀ x ∈ l, x < 128 ∧ ∃ k, 1 ≤ k ∧ k ≤ n ∧ wayB D a k x = true
  | 0, b, hn, h => by omega
  | 1, b, _, h => ⟨[b], by simp, rfl, fun x hx => by
      rw [List.mem_singleton] at hx
      subst hx
      exact ⟨way_lt hD (Nat.le_refl _) h.1, 1, Nat.le_refl _, Nat.le_refl _, h.1⟩⟩
  | n + 2, b, _, h => by
    obtain ⟨u, h1, h2⟩ := fst_back hD h
    unfold levB at h1
    rw [if_neg (by omega)] at h1
    obtain ⟨l, hl, hn, hx⟩ := fst_chain hD (n := n + 1) (by omega) h1
    refine ⟨b :: l, ?_, by rw [List.length_cons, hn], fun x hm => ?_⟩
    · rw [List.nodup_cons]
      refine ⟨fun hm => ?_, hl⟩
      obtain ⟨_, k, k1, k2, k3⟩ := hx b hm
      rw [h.2 k k1 (by omega)] at k3
      cases k3
    · rcases List.mem_cons.1 hm with e | h3
      · rw [e]
        exact ⟨way_lt hD (by omega) h.1, n + 2, by omega, Nat.le_refl _, h.1⟩
      · obtain ⟨h4, k, k1, k2, k3⟩ := hx x h3
        exact ⟨h4, k, k1, by omega, k3⟩
theorem fst_le {D : List Dep} (hD : okD D = true) {a n b : Nat} (h : fstB D a n b) : n ≤ 128 := by
  by_cases hn : 1 ≤ n
  · obtain ⟨l, hl, he, hx⟩ := fst_chain hD hn h
    rw [← he]
    exact pigeon 128 l hl (fun x hm => (hx x hm).1)
  · omega
def distD (D : List Dep) (a b : Nat) : Nat := match (List.range 128).find? (fun n => wayB D a (n + 1) b) with | none => 0 | some n => n + 1
theorem find_least {p : Nat → Bool} {n k : Nat} (h : (List.range n).find? p = some k) {j : Nat} (hj : j < k) : p j = false := by
  induction n with
  | zero => simp at h
  | succ n ih =>
    rw [List.range_succ, List.find?_append] at h
    cases hf : (List.range n).find? p with
    | some m =>
      rw [hf] at h
      exact ih (hf.trans h)
    | none =>
      rw [hf] at h
      have hk : k = n := by
        have := List.mem_of_find?_eq_some (l := [n]) h
        simpa using this
      subst hk
      have := List.find?_eq_none.1 hf j (List.mem_range.2 hj)
      simpa using this
theorem dist_is {D : List Dep} (hD : okD D = true) (a b : Nat) : isDist D a b (distD D a b) := by
  unfold distD
  cases hf : (List.range 128).find? (fun n => wayB D a (n + 1) b) with
  | some n =>
    have hp : wayB D a (n + 1) b = true := List.find?_some (p := fun n => wayB D a (n + 1) b) hf
    refine .inr ⟨by simp, hp, fun m h1 h2 => ?_⟩
    obtain ⟨j, rfl⟩ : ∃ j, m = j + 1 := ⟨m - 1, by omega⟩
    exact find_least hf (j := j) (by simpa using h2)
  | none =>
    refine .inl ⟨rfl, fun m h1 => ?_⟩
    cases hw : wayB D a m b with
    | false => rfl
    | true =>
      obtain ⟨k, k1, k2, k3⟩ := fst_ex h1 hw
      have hk := fst_le hD k3
      have := List.find?_eq_none.1 hf (k - 1) (List.mem_range.2 (by omega))
      rw [show k - 1 + 1 = k by omega, k3.1] at this
      simp at this
theorem dist_le {D : List Dep} (hD : okD D = true) (a b : Nat) : distD D a b ≤ 128 := by
  rcases dist_is hD a b with ⟨h, _⟩ | ⟨_, h⟩
  · omega
  · exact fst_le hD h
theorem dist_of {D : List Dep} (hD : okD D = true) {a b n : Nat} (h : isDist D a b n) : distD D a b = n := dist_uniq (dist_is hD a b) h
/-- A way is no shorter than the least one. -/
theorem dist_way {D : List Dep} (hD : okD D = true) {a b n : Nat} (hn : 1 ≤ n) (h : wayB D a n b = true) : 1 ≤ distD D a b ∧ distD D a b ≤ n := by
  rcases dist_is hD a b with ⟨h1, h2⟩ | ⟨h1, h2⟩
  · rw [h2 n hn] at h; cases h
  · refine ⟨h1, ?_⟩
    by_cases hlt : n < distD D a b
    · rw [h2.2 n hn hlt] at h; cases h
    · omega
theorem dist_pos {D : List Dep} (hD : okD D = true) {a b : Nat} (h : 1 ≤ distD D a b) : wayB D a (distD D a b) b = true := by
  rcases dist_is hD a b with ⟨h1, h2⟩ | ⟨h1, h2⟩
  · omega
  · exact h2.1
/-- The triangle inequality. -/
theorem dist_tri {D : List Dep} (hD : okD D = true) {a b c : Nat} (h : 1 ≤ distD D a b) (k : 1 ≤ distD D b c) : 1 ≤ distD D a c ∧ distD D a c ≤ distD D a b + distD D b c :=
  dist_way hD (by omega) (way_add hD (dist_pos hD h) (dist_pos hD k))

/-- The number of steps, or -1. -/
def stpG (D : List Dep) (x y : Int) : Int := if okD D = true ∧ (0 ≤ x ∧ x ≤ 127) ∧ (0 ≤ y ∧ y ≤ 127) then (if distD D x.toNat y.toNat = 0 then -1 else (distD D x.toNat y.toNat : Int)) else -1

/-- Along a way the ranks of an order rise. -/
theorem ord_way {D : List Dep} (hD : okD D = true) {R : List Int} (h : isOrdO D R = true) {a : Nat} : ∀ {n b : Nat}, 1 ≤ n → wayB D a n b = true → R.getD a 0 < R.getD b 0 := by
  have he : ∀ a b : Nat, edgeB D a b = true → R.getD a 0 < R.getD b 0 := fun a b hab => by
    obtain ⟨k, hk, e⟩ := atD_ex (edge_iff.1 hab)
    simp only [isOrdO, Bool.and_eq_true, List.all_eq_true, List.mem_range] at h
    have := h.2 k hk
    unfold riseO at this
    rw [e] at this
    simpa using this
  intro n
  induction n with
  | zero => intro b hn; omega
  | succ n ih =>
    intro b _ hw
    obtain ⟨u, h1, h2⟩ := (wayB_next hD).1 hw
    by_cases hn : 1 ≤ n
    · have := ih hn h1
      have := he u b h2
      omega
    · obtain rfl : n = 0 := by omega
      rw [wayB_zero.1 h1] at h2
      exact he a b h2
theorem ord_acyclic {D : List Dep} {R : List Int} (h : orderO D = some R) (c : Nat) : distD D c c = 0 := by
  obtain ⟨hD, _, ho⟩ := order_is h
  rcases dist_is hD c c with ⟨h1, _⟩ | ⟨h1, h2⟩
  · exact h1
  · have := ord_way hD ho h1 h2.1
    omega
/-- Channels without a rank, each of which waits for another one: some lie on a cycle. -/
theorem pre_cycle {D : List Dep} (hD : okD D = true) {S : Nat → Prop} {c0 : Nat} (h0 : S c0) (h0' : c0 < 128) (hp : ∀ c, c < 128 → S c → ∃ p, S p ∧ edgeB D p c = true) : ∃ c n, c < 128 ∧ 1 ≤ n ∧ wayB D c n c = true := by
  have key : ∀ k : Nat, (∃ c n, c < 128 ∧ 1 ≤ n ∧ wayB D c n c = true) ∨ ∃ (l : List Nat) (h : Nat), l.Nodup ∧ l.length = k + 1 ∧ h < 128 ∧ S h ∧ ∀ x ∈ l, x < 128 ∧ ∃ n, wayB D h n x = true := by
    intro k
    induction k with
    | zero => exact .inr ⟨[c0], c0, by simp, rfl, h0', h0, fun x hx => by rw [List.mem_singleton] at hx; subst hx; exact ⟨h0', 0, wayB_zero.2 rfl⟩⟩
    | succ k ih =>
      rcases ih with h | ⟨l, h, hl, hn, hh, hs, hx⟩
      · exact .inl h
      · obtain ⟨p, hps, hpe⟩ := hp h hh hs
        have hp128 := (edge_lt hD hpe).1
        by_cases hm : p ∈ l
        · obtain ⟨_, n, hw⟩ := hx p hm
          exact .inl ⟨p, n + 1, hp128, by omega, way_cons hD hpe hw⟩
        · refine .inr ⟨p :: l, p, by rw [List.nodup_cons]; exact ⟨hm, hl⟩, by rw [List.length_cons, hn], hp128, hps, fun x hxm => ?_⟩
          rcases List.mem_cons.1 hxm with e | h3
          · rw [e]; exact ⟨hp128, 0, wayB_zero.2 rfl⟩
          · obtain ⟨h4, n, hw⟩ := hx x h3
            exact ⟨h4, n + 1, way_cons hD hpe hw⟩
  rcases key 128 with h | ⟨l, h, hl, hn, _, _, hx⟩
  · exact h
  · have := pigeon 128 l hl (fun x hm => (hx x hm).1)
    omega
theorem ordTo_fail {D : List Dep} : ∀ {n : Nat}, ordTo D n = none → ∃ r R, r < n ∧ ordTo D r = some R ∧ bestO D R = none
  | 0, h => by cases h
  | n + 1, h => by
    cases h1 : ordTo D n with
    | none =>
      obtain ⟨r, R, h2, h3⟩ := ordTo_fail h1
      exact ⟨r, R, by omega, h3⟩
    | some R =>
      cases h2 : bestO D R with
      | none => exact ⟨n, R, by omega, h1, h2⟩
      | some c => rw [ordTo_next h1 h2] at h; cases h
/-- Either an order or a cycle exists. -/
theorem cycle_of {D : List Dep} (hD : okD D = true) (h : orderO D = none) : ∃ c, c < 128 ∧ 1 ≤ distD D c c := by
  rw [orderO_ok hD] at h
  obtain ⟨r, R, hr, hR, hb⟩ := ordTo_fail h
  have hi := ord_inv hD (by omega) hR
  have hno : ∀ c, c < 128 → candO D R c = false := fun c hc => by
    have := List.find?_eq_none.1 hb c (List.mem_range.2 hc)
    simpa using this
  have hpos : 0 < R.countP (fun x => decide (x < 0)) := by rw [hi.cnt]; omega
  obtain ⟨x, hx, hx0⟩ := List.countP_pos_iff.1 hpos
  obtain ⟨c0, hc0, rfl⟩ := List.getElem_of_mem hx
  have hc1 : c0 < 128 := by rw [← hi.len]; exact hc0
  have hg : R.getD c0 0 < 0 := by
    rw [List.getD_eq_getElem?_getD, List.getElem?_eq_getElem hc0]
    simpa using hx0
  obtain ⟨c, n, hc, hn, hw⟩ := pre_cycle hD (S := fun c => R.getD c 0 < 0) hg hc1 (fun c hc hs => by
    have h1 := hno c hc
    have h2 : freeO D R c = false := by
      simp only [candO, hs, decide_true, Bool.true_and] at h1
      exact h1
    have h3 : ∃ i, i < D.length ∧ holdO R (atD D i) c = true := by
      refine Classical.byContradiction fun hne => ?_
      have : freeO D R c = true := freeO_iff.2 fun i hi => by
        cases hh : holdO R (atD D i) c with
        | false => rfl
        | true => exact absurd ⟨i, hi, hh⟩ hne
      rw [this] at h2
      cases h2
    obtain ⟨i, hi2, hh⟩ := h3
    simp only [holdO, Bool.and_eq_true, decide_eq_true_eq] at hh
    have hin := inD_iff.1 (okD_in hD (atD_mem hi2))
    refine ⟨(atD D i).1.toNat, hh.2, edge_iff.2 ?_⟩
    have : atD D i = (((atD D i).1.toNat : Int), (c : Int)) := Prod.ext (by simp only; omega) hh.1
    rw [← this]
    exact atD_mem hi2)
  exact ⟨c, hc, (dist_way hD hn hw).1⟩
end Go.Proofs.Ytnielgpcfgfioaa
