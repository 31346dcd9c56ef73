/- What is proved here: the search backwards through a queue as mathematics: each channel gets the least number of steps from it to a certain one, or -1; nothing of the program; what the program's waitersOf returns: 128 lists of its own in different blocks, list c with the channels that can wait for c; only new blocks are written; what the program's closure that marks the channels that can wait for one does: it changes the row of steps and the list of marked channels, which lie in variables that it shares with its maker; only new blocks and blocks of its maker's own are written; what the program's stepsTo returns: the least number of steps from each channel to a certain one, -1 where there are none; only new blocks are written; the program's shortest way from a channel back to it; only new blocks are written; the program's shortest cycle; only new blocks are written; the program's verdict on a list of dependencies; only new blocks are written; the program's verdict on two classes; only new blocks are written; the exact law on CheckClasses answers true, for every argument; only new blocks are written; the contract of a function that returns a new pair of tables and whether there is one; nothing of the program; names for what StandardPort and StandardTable return; nothing of the program; the model's two tables of the rules xy and yx; only new blocks are written; the directions of the four rules, taken one after the other, are the ports of the standard tables; nothing of the program; the program's functions of directions and its four rules, for nodes that exist; only new blocks are written; the table of the rules that the program builds, and what it finds for a rule's number; only new blocks are written; a store into a row of the rules' table; whether a grid has a node; what the program's StandardTable returns, for all arguments; only new blocks are written; the program's two tables of the rules xy and yx; only new blocks are written. -/
import Derived.Test.YtcmlnokfjbglaaaME
import Derived.Deep.AppendLies
import Derived.Deep.RegionLaw
import Derived.Shelf.Abstract
import Derived.StillTailTactics
import Derived.Deep.Cut
import Derived.Laws.Rows
import Derived.Laws.Tables
import Derived.Laws.ResultCell
section
namespace Go.Proofs.Ytcmlnokfjbglaaa
open Go.ChangeShapes Go.WideShapes Go.ChangeAt Go.RowKit
set_option linter.unusedVariables false

/-- The channels that can wait for c. -/
def waitD (D : List Dep) (c : Int) : List Int := (D.filter fun d => decide (d.2 = c)).map (·.1)
theorem wait_iff {D : List Dep} {c x : Int} : x ∈ waitD D c ↔ (x, c) ∈ D := by
  unfold waitD
  rw [List.mem_map]
  constructor
  · rintro ⟨d, hd, rfl⟩
    obtain ⟨h1, h2⟩ := List.mem_filter.1 hd
    have h3 : d.2 = c := by simpa using h2
    have : d = (d.1, c) := Prod.ext rfl h3
    rwa [this] at h1
  · exact fun h => ⟨_, List.mem_filter.2 ⟨h, by simp⟩, rfl⟩
theorem wait_edge {D : List Dep} {c t : Nat} : (t : Int) ∈ waitD D (c : Int) ↔ edgeB D t c = true := by rw [wait_iff, edge_iff]
theorem wait_nat {D : List Dep} (hD : okD D = true) {c : Nat} {x : Int} (h : x ∈ waitD D (c : Int)) : ∃ t : Nat, x = (t : Int) ∧ t < 128 ∧ edgeB D t c = true := by
  have h1 := inD_iff.1 (okD_in hD (wait_iff.1 h))
  simp only at h1
  refine ⟨x.toNat, by omega, by omega, ?_⟩
  rw [← wait_edge, Int.toNat_of_nonneg h1.1]
  exact h
theorem wait_take {D : List Dep} {k : Nat} (hk : k < D.length) (c : Int) : waitD (D.take (k + 1)) c = if (atD D k).2 = c then waitD (D.take k) c ++ [(atD D k).1] else waitD (D.take k) c := by
  unfold waitD
  have e : D.take (k + 1) = D.take k ++ [atD D k] := by rw [List.take_succ_eq_append_getElem hk, atD_get hk]
  rw [e, List.filter_append, List.map_append]
  by_cases h : (atD D k).2 = c
  · rw [if_pos h]; simp [h]
  · rw [if_neg h]; simp [h]
theorem wait_length (D : List Dep) (c : Int) : (waitD D c).length ≤ D.length := by
  unfold waitD
  rw [List.length_map]
  exact List.length_filter_le _ _

/-- One waiter: marked with the count if it is not yet marked. -/
def mark1 (n : Int) (s : List Int × List Int) (t : Int) : List Int × List Int := if s.1.getD t.toNat 0 = -1 then (s.1.set t.toNat n, s.2 ++ [t]) else s
def markN (n : Int) (W : List Int) (s : List Int × List Int) (k : Nat) : List Int × List Int := (W.take k).foldl (mark1 n) s
theorem markN_zero (n : Int) (W : List Int) (s : List Int × List Int) : markN n W s 0 = s := rfl
theorem markN_next {n : Int} {W : List Int} {s : List Int × List Int} {k : Nat} (hk : k < W.length) : markN n W s (k + 1) = mark1 n (markN n W s k) (W.getD k 0) := by
  unfold markN
  rw [List.take_succ_eq_append_getElem hk, List.foldl_append, List.getD_eq_getElem?_getD, List.getElem?_eq_getElem hk]
  rfl
theorem mark_yes {n t : Int} {X M : List Int} (h : X.getD t.toNat 0 = -1) : mark1 n (X, M) t = (X.set t.toNat n, M ++ [t]) := if_pos h
theorem mark_no {n t : Int} {X M : List Int} (h : X.getD t.toNat 0 ≠ -1) : mark1 n (X, M) t = (X, M) := if_neg h
theorem mark_len (n : Int) (s : List Int × List Int) (t : Int) : (mark1 n s t).1.length = s.1.length ∧ (mark1 n s t).2.length ≤ s.2.length + 1 := by
  unfold mark1
  split <;> simp
theorem markN_len (n : Int) (W : List Int) (s : List Int × List Int) : ∀ k, k ≤ W.length → (markN n W s k).1.length = s.1.length ∧ (markN n W s k).2.length ≤ s.2.length + k
  | 0, _ => ⟨rfl, Nat.le_refl _⟩
  | k + 1, h => by
    have h1 := markN_len n W s k (by omega)
    have h2 := mark_len n (markN n W s k) (W.getD k 0)
    rw [markN_next (by omega)]
    omega

/-- The numbers of steps from the channels that are marked. -/
def stepL (D : List Dep) (a : Nat) (M : List Nat) : List Int := (List.range 128).map fun t => if t ∈ M then (distD D t a : Int) else -1
theorem stepL_len (D : List Dep) (a : Nat) (M : List Nat) : (stepL D a M).length = 128 := by simp [stepL]
theorem stepL_at {D : List Dep} {a t : Nat} {M : List Nat} (h : t < 128) : (stepL D a M).getD t 0 = if t ∈ M then (distD D t a : Int) else -1 := by
  rw [List.getD_eq_getElem?_getD, stepL, List.getElem?_map, List.getElem?_range h]; rfl
theorem stepL_nil (D : List Dep) (a : Nat) : stepL D a [] = List.replicate 128 (-1) := by
  unfold stepL
  exact List.ext_getElem (by simp only [List.length_map, List.length_range, List.length_replicate]) fun i h1 h2 => by
    rw [List.getElem_map, List.getElem_replicate, if_neg (by simp)]
theorem getD_ext {X Y : List Int} {n : Nat} (hX : X.length = n) (hY : Y.length = n) (h : ∀ t, t < n → X.getD t 0 = Y.getD t 0) : X = Y := by
  apply List.ext_getElem (by rw [hX, hY])
  intro i h1 h2
  have := h i (by omega)
  rw [List.getD_eq_getElem?_getD, List.getD_eq_getElem?_getD, List.getElem?_eq_getElem h1, List.getElem?_eq_getElem h2] at this
  exact this
theorem stepL_set {D : List Dep} {a t : Nat} {M : List Nat} (ht : t < 128) : (stepL D a M).set t (distD D t a : Int) = stepL D a (M ++ [t]) := by
  refine getD_ext (n := 128) (by rw [List.length_set, stepL_len]) (stepL_len _ _ _) fun u hu => ?_
  rw [set_getD (by rw [stepL_len]; exact ht), stepL_at hu, stepL_at hu]
  by_cases e : t = u
  · subst e; simp
  · rw [if_neg e]
    have : (u ∈ M ++ [t]) ↔ u ∈ M := by simp [show ¬ u = t from fun h => e h.symm]
    simp only [this]
/-- The channels of a list, as the program has them. -/
def upI (M : List Nat) : List Int := M.map (fun x : Nat => (x : Int))
theorem upI_len (M : List Nat) : (upI M).length = M.length := by simp [upI]
theorem upI_app (M : List Nat) (t : Nat) : upI (M ++ [t]) = upI M ++ [(t : Int)] := by simp [upI]
theorem upI_at {M : List Nat} {k : Nat} (h : k < M.length) : (upI M).getD k 0 = (M.getD k 0 : Int) := by
  rw [List.getD_eq_getElem?_getD, List.getD_eq_getElem?_getD, upI, List.getElem?_map, List.getElem?_eq_getElem h]; rfl

/-- The queue M, of which the first i channels are done; the last ones are at most n steps away. -/
structure Que (D : List Dep) (a i n : Nat) (M : List Nat) : Prop where
  le : i ≤ M.length
  rng : ∀ x ∈ M, x < 128
  nod : M.Nodup
  pos : ∀ x ∈ M, 1 ≤ distD D x a ∧ distD D x a ≤ n
  mon : ∀ k l, k ≤ l → l < M.length → distD D (M.getD k 0) a ≤ distD D (M.getD l 0) a
  don : ∀ k, k < i → ∀ t, edgeB D t (M.getD k 0) = true → t ∈ M
theorem que_few {D : List Dep} {a i n : Nat} {M : List Nat} (h : Que D a i n M) : M.length ≤ 128 := pigeon 128 M h.nod h.rng
theorem que_start (D : List Dep) (a : Nat) : Que D a 0 1 [] := ⟨Nat.le_refl _, fun x h => (by cases h), List.nodup_nil, fun x h => (by cases h), fun k l _ h => (by simp at h), fun k h => (by omega)⟩
theorem getD_old {M : List Nat} {t k : Nat} (h : k < M.length) : (M ++ [t]).getD k 0 = M.getD k 0 := by
  rw [List.getD_eq_getElem?_getD, List.getD_eq_getElem?_getD, List.getElem?_append_left h]
theorem getD_memN {M : List Nat} {k : Nat} (h : k < M.length) : M.getD k 0 ∈ M := by
  rw [List.getD_eq_getElem?_getD, List.getElem?_eq_getElem h]
  exact List.getElem_mem h
theorem Que.hit {D : List Dep} {a i n t : Nat} {M : List Nat} (h : Que D a i n M) (ht : t < 128) (hn : t ∉ M) (hd : distD D t a = n) (h1 : 1 ≤ n) : Que D a i n (M ++ [t]) := by
  refine ⟨by rw [List.length_append]; have := h.le; omega, fun x hx => ?_, ?_, fun x hx => ?_, fun k l hkl hl => ?_, fun k hk u hu => ?_⟩
  · rcases List.mem_append.1 hx with hx | hx
    · exact h.rng x hx
    · rw [List.mem_singleton.1 hx]; exact ht
  · rw [List.nodup_append]
    refine ⟨h.nod, by simp, fun x hx y hy e => ?_⟩
    rw [List.mem_singleton] at hy
    subst hy
    subst e
    exact hn hx
  · rcases List.mem_append.1 hx with hx | hx
    · exact h.pos x hx
    · rw [List.mem_singleton.1 hx]; omega
  · rw [List.length_append, List.length_singleton] at hl
    have hlast : (M ++ [t]).getD M.length 0 = t := by
      rw [List.getD_eq_getElem?_getD, List.getElem?_append_right (Nat.le_refl _), Nat.sub_self]; rfl
    by_cases hk : k < M.length
    · by_cases hl2 : l < M.length
      · rw [getD_old hk, getD_old hl2]; exact h.mon k l hkl hl2
      · obtain rfl : l = M.length := by omega
        rw [getD_old hk, hlast, hd]
        exact (h.pos _ (getD_memN hk)).2
    · obtain rfl : k = M.length := by omega
      obtain rfl : l = M.length := by omega
      exact Nat.le_refl _
  · rw [getD_old (by have := h.le; omega)] at hu
    exact List.mem_append_left _ (h.don k hk u hu)
theorem one_edge {D : List Dep} (hD : okD D = true) {t a : Nat} (h : distD D t a = 1) : edgeB D t a = true := by
  have := dist_pos hD (a := t) (b := a) (by omega)
  rw [h] at this
  exact (way_one hD).1 this
theorem edge_one {D : List Dep} (hD : okD D = true) {t a : Nat} (h : edgeB D t a = true) : distD D t a = 1 := by
  have := dist_way hD (Nat.le_refl 1) ((way_one hD).2 h)
  omega
/-- Behind the first step of a shortest way the rest is a shortest way. -/
theorem next_dist {D : List Dep} (hD : okD D = true) {t a m : Nat} (hm : 1 ≤ m) (h : distD D t a = m + 1) : ∃ s, edgeB D t s = true ∧ distD D s a = m := by
  have hw := dist_pos hD (a := t) (b := a) (by omega)
  rw [h] at hw
  obtain ⟨s, h1, h2⟩ := way_head hD hw
  refine ⟨s, h1, ?_⟩
  have h3 := dist_way hD hm h2
  have h5 := dist_way hD (show 1 ≤ distD D s a + 1 by omega) (way_cons hD h1 (dist_pos hD h3.1))
  omega
theorem edge_dist {D : List Dep} (hD : okD D = true) {t c a : Nat} (h : edgeB D t c = true) (hc : 1 ≤ distD D c a) : 1 ≤ distD D t a ∧ distD D t a ≤ distD D c a + 1 :=
  dist_way hD (by omega) (way_cons hD h (dist_pos hD hc))
/-- All channels that are as near as the one at i are in the queue. -/
theorem que_near {D : List Dep} (hD : okD D = true) {a i n : Nat} {M : List Nat} (h : Que D a i n M) (hf : ∀ t, edgeB D t a = true → t ∈ M) (hi : i < M.length) : ∀ m t, distD D t a = m → 1 ≤ m → m ≤ distD D (M.getD i 0) a → t ∈ M
  | 0, t, _, h1, _ => by omega
  | 1, t, h1, _, _ => hf t (one_edge hD h1)
  | m + 2, t, h1, _, h3 => by
    obtain ⟨s, h4, h5⟩ := next_dist hD (m := m + 1) (by omega) h1
    have h6 := que_near hD h hf hi (m + 1) s h5 (by omega) (by omega)
    obtain ⟨l, hl, e⟩ := List.getElem_of_mem h6
    have e2 : M.getD l 0 = s := by rw [List.getD_eq_getElem?_getD, List.getElem?_eq_getElem hl, e]; rfl
    have hli : l < i := by
      by_cases hc : l < i
      · exact hc
      · have := h.mon i l (by omega) hl
        rw [e2] at this
        omega
    exact h.don l hli t (by rw [e2]; exact h4)
theorem que_next {D : List Dep} (hD : okD D = true) {a i n t : Nat} {M : List Nat} (h : Que D a i n M) (hf : ∀ t, edgeB D t a = true → t ∈ M) (hi : i < M.length) (ht : edgeB D t (M.getD i 0) = true) (hn : t ∉ M) : distD D t a = distD D (M.getD i 0) a + 1 := by
  have h1 := edge_dist hD ht (h.pos _ (getD_memN hi)).1
  by_cases hc : distD D t a ≤ distD D (M.getD i 0) a
  · exact absurd (que_near hD h hf hi _ t rfl h1.1 hc) hn
  · omega
/-- The waiters of a channel are marked. -/
theorem mark_run {D : List Dep} {a i n : Nat} (h1 : 1 ≤ n) {M0 : List Nat} : ∀ (W : List Int) (M : List Nat), Que D a i n M → M0 <+: M → (∀ M', Que D a i n M' → M0 <+: M' → ∀ x ∈ W, ∃ t : Nat, x = (t : Int) ∧ t < 128 ∧ (t ∉ M' → distD D t a = n)) →
    ∃ M', W.foldl (mark1 (n : Int)) (stepL D a M, upI M) = (stepL D a M', upI M') ∧ Que D a i n M' ∧ M0 <+: M' ∧ (∀ x ∈ M, x ∈ M') ∧ ∀ t : Nat, (t : Int) ∈ W → t ∈ M'
  | [], M, h, hp, _ => ⟨M, rfl, h, hp, fun x hx => hx, fun t ht => by cases ht⟩
  | x :: W, M, h, hp, hs => by
    obtain ⟨t, rfl, ht, hd⟩ := hs M h hp x (List.mem_cons_self ..)
    have hs2 : ∀ M', Que D a i n M' → M0 <+: M' → ∀ x ∈ W, ∃ t : Nat, x = (t : Int) ∧ t < 128 ∧ (t ∉ M' → distD D t a = n) := fun M' h1 h2 x hx => hs M' h1 h2 x (List.mem_cons_of_mem _ hx)
    rw [List.foldl_cons]
    by_cases hm : t ∈ M
    · have e : (stepL D a M).getD ((t : Int)).toNat 0 ≠ -1 := by
        rw [Int.toNat_natCast, stepL_at ht, if_pos hm]; omega
      rw [mark_no e]
      obtain ⟨M', e1, e2, e3, e4, e5⟩ := mark_run h1 W M h hp hs2
      refine ⟨M', e1, e2, e3, e4, fun u hu => ?_⟩
      rcases List.mem_cons.1 hu with e | hu
      · have : u = t := by omega
        rw [this]; exact e4 t hm
      · exact e5 u hu
    · have e : (stepL D a M).getD ((t : Int)).toNat 0 = -1 := by
        rw [Int.toNat_natCast, stepL_at ht, if_neg hm]
      rw [mark_yes e, Int.toNat_natCast, ← hd hm, stepL_set ht, hd hm, ← upI_app]
      obtain ⟨M', e1, e2, e3, e4, e5⟩ := mark_run h1 W (M ++ [t]) (h.hit ht hm (hd hm) h1) (hp.trans (List.prefix_append _ _)) hs2
      refine ⟨M', e1, e2, e3, fun x hx => e4 x (List.mem_append_left _ hx), fun u hu => ?_⟩
      rcases List.mem_cons.1 hu with e | hu
      · have : u = t := by omega
        rw [this]; exact e4 t (List.mem_append_right _ (List.mem_singleton.2 rfl))
      · exact e5 u hu
theorem markN_all (n : Int) (W : List Int) (s : List Int × List Int) : markN n W s W.length = W.foldl (mark1 n) s := by unfold markN; rw [List.take_length]
/-- The start. -/
theorem que_one {D : List Dep} (hD : okD D = true) (a : Nat) : ∃ M, markN 1 (waitD D (a : Int)) (stepL D a [], upI []) (waitD D (a : Int)).length = (stepL D a M, upI M) ∧ Que D a 0 1 M ∧ ∀ t, edgeB D t a = true → t ∈ M := by
  obtain ⟨M, h1, h2, _, _, h3⟩ := mark_run (D := D) (a := a) (i := 0) (n := 1) (Nat.le_refl _) (M0 := []) (waitD D (a : Int)) [] (que_start D a) List.nil_prefix (fun M' _ _ x hx => by
    obtain ⟨t, e, ht, hd⟩ := wait_nat hD hx
    exact ⟨t, e, ht, fun _ => edge_one hD hd⟩)
  exact ⟨M, by rw [markN_all]; exact h1, h2, fun t ht => h3 t (wait_edge.2 ht)⟩
/-- One channel of the queue. -/
theorem que_step {D : List Dep} (hD : okD D = true) {a i n : Nat} {M : List Nat} (h : Que D a i n M) (hf : ∀ t, edgeB D t a = true → t ∈ M) (hi : i < M.length) (hn : n ≤ distD D (M.getD i 0) a + 1) :
    ∃ M', markN ((distD D (M.getD i 0) a + 1 : Nat) : Int) (waitD D (M.getD i 0 : Int)) (stepL D a M, upI M) (waitD D (M.getD i 0 : Int)).length = (stepL D a M', upI M') ∧ Que D a (i + 1) (distD D (M.getD i 0) a + 1) M' ∧ (∀ t, edgeB D t a = true → t ∈ M') ∧ (i + 1 < M'.length → distD D (M.getD i 0) a + 1 ≤ distD D (M'.getD (i + 1) 0) a + 1) := by
  have hq : Que D a i (distD D (M.getD i 0) a + 1) M := ⟨h.le, h.rng, h.nod, fun x hx => ⟨(h.pos x hx).1, Nat.le_trans (h.pos x hx).2 hn⟩, h.mon, h.don⟩
  have pre : ∀ M', M <+: M' → M'.getD i 0 = M.getD i 0 := fun M' hp => by
    obtain ⟨N, rfl⟩ := hp
    rw [List.getD_eq_getElem?_getD, List.getD_eq_getElem?_getD, List.getElem?_append_left hi]
  obtain ⟨M', h1, h2, hp, h3, h4⟩ := mark_run (D := D) (a := a) (i := i) (n := distD D (M.getD i 0) a + 1) (by omega) (M0 := M) (waitD D (M.getD i 0 : Int)) M hq (List.prefix_refl _) (fun M' hM' hp x hx => by
    obtain ⟨t, e, ht, hd⟩ := wait_nat hD hx
    have hi2 : i < M'.length := Nat.lt_of_lt_of_le hi hp.length_le
    refine ⟨t, e, ht, fun hn => ?_⟩
    have := que_next hD hM' (fun u hu => hp.subset (hf u hu)) hi2 (by rw [pre M' hp]; exact hd) hn
    rwa [pre M' hp] at this)
  have hi2 : i < M'.length := Nat.lt_of_lt_of_le hi hp.length_le
  refine ⟨M', by rw [markN_all]; exact h1, ⟨hi2, h2.rng, h2.nod, h2.pos, h2.mon, fun k hk t ht => ?_⟩, fun t ht => h3 t (hf t ht), fun hl => ?_⟩
  · rcases Nat.lt_succ_iff_lt_or_eq.1 hk with hk | rfl
    · exact h2.don k hk t ht
    · rw [pre M' hp] at ht
      exact h4 t (wait_edge.2 ht)
  · have := h2.mon i (i + 1) (by omega) hl
    rw [pre M' hp] at this
    omega
/-- All the least numbers of steps to a channel, -1 where there are none. -/
def toL (D : List Dep) (a : Nat) : List Int := (List.range 128).map fun t => if distD D t a = 0 then -1 else (distD D t a : Int)
theorem toL_len (D : List Dep) (a : Nat) : (toL D a).length = 128 := by simp [toL]
theorem toL_at {D : List Dep} {a t : Nat} (h : t < 128) : (toL D a).getD t 0 = if distD D t a = 0 then -1 else (distD D t a : Int) := by
  rw [List.getD_eq_getElem?_getD, toL, List.getElem?_map, List.getElem?_range h]; rfl
theorem que_end {D : List Dep} (hD : okD D = true) {a n : Nat} {M : List Nat} (h : Que D a M.length n M) (hf : ∀ t, edgeB D t a = true → t ∈ M) : stepL D a M = toL D a := by
  have key : ∀ m t, distD D t a = m → 1 ≤ m → t ∈ M := fun m => by
    induction m with
    | zero => intro t _ h1; omega
    | succ m ih =>
      intro t h1 _
      by_cases hm : m = 0
      · exact hf t (one_edge hD (by omega))
      · obtain ⟨s, h4, h5⟩ := next_dist hD (m := m) (by omega) h1
        obtain ⟨l, hl, e⟩ := List.getElem_of_mem (ih s h5 (by omega))
        have e2 : M.getD l 0 = s := by rw [List.getD_eq_getElem?_getD, List.getElem?_eq_getElem hl, e]; rfl
        exact h.don l hl t (by rw [e2]; exact h4)
  refine getD_ext (n := 128) (stepL_len _ _ _) (toL_len _ _) fun t ht => ?_
  rw [stepL_at ht, toL_at ht]
  by_cases h0 : distD D t a = 0
  · have : t ∉ M := fun hm => by have := (h.pos t hm).1; omega
    rw [if_neg this, if_pos h0]
  · rw [if_pos (key _ t rfl (by omega)), if_neg h0]

/-- The next channel of the way back: the first successor with so many steps left. -/
def nextW (D : List Dep) (X : List Int) (left u : Nat) : Nat := match (succD D (u : Int)).find? (fun s => decide (X.getD s.toNat 0 = (left : Int))) with | some s => s.toNat | none => u
theorem find_congr {p q : Int → Bool} : ∀ {l : List Int}, (∀ x ∈ l, p x = q x) → l.find? p = l.find? q
  | [], _ => rfl
  | x :: l, h => by
    rw [List.find?_cons, List.find?_cons, h x (List.mem_cons_self ..), find_congr (fun y hy => h y (List.mem_cons_of_mem _ hy))]
theorem nextW_is {D : List Dep} (hD : okD D = true) {st b left u : Nat} (hb : distD D st st = b) (h0 : 0 < left) (h1 : left < b) : nextW D (toL D st) left u = nextP D st left u := by
  unfold nextW nextP
  have : (succD D (u : Int)).find? (fun s => decide ((toL D st).getD s.toNat 0 = (left : Int))) = (succD D (u : Int)).find? (candP D st left) := by
    refine find_congr fun s hs => ?_
    have hr := succ_in hD hs
    unfold candP
    rw [if_neg (by omega), toL_at (by omega)]
    by_cases h2 : distD D s.toNat st = left
    · have h3 : s ≠ (st : Int) := fun e => by
        subst e
        rw [Int.toNat_natCast] at h2
        omega
      rw [h2, if_neg (by omega)]
      simp [h3]
    · by_cases h3 : distD D s.toNat st = 0
      · rw [if_pos h3]
        have : ¬ (-1 : Int) = (left : Int) := by omega
        simp [this, h2]
      · rw [if_neg h3]
        have : ¬ ((distD D s.toNat st : Int) = (left : Int)) := by omega
        simp [this, h2]
  simp only [this]
  rfl
theorem cyc_next (D : List Dep) (st b : Nat) (i : Nat) : (List.range (i + 1)).map (fun i => (atP D st b i : Int)) = (List.range i).map (fun i => (atP D st b i : Int)) ++ [(atP D st b i : Int)] := by
  rw [List.range_succ, List.map_append]; rfl
end Go.Proofs.Ytcmlnokfjbglaaa
end

section
namespace Go.Proofs.Ytcmlnokfjbglaaa
open Go.ChangeShapes Go.WideShapes Go.ChangeAt Go.RowKit
set_option linter.unusedVariables false
set_option maxRecDepth 20000

theorem info_rows : (Try.prog.info? 28).map (fun i => (i.zero, i.size, i.bytes)) = some (some (.slice none 0 0), 1, 24) := by kernel_rfl
theorem own_kind {w : World} {b1 b2 s1 s2 n1 n2 : Nat} {e1 e2 : TypeId} {v1 v2 : Value} {x1 x2 : List Value} (h1 : w.ownsRow b1 e1 s1 v1 n1 x1) (h2 : w.ownsRow b2 e2 s2 v2 n2 x2) (hne : e1 ≠ e2) : v1.ownBlock = none ∨ v1.ownBlock ≠ v2.ownBlock := by
  rcases h1.2 with ⟨h3, _⟩ | ⟨g1, c1, cur1, h3, _, hg1, _⟩
  · rw [h3]; exact .inl rfl
  · right
    rw [h3]
    rcases h2.2 with ⟨h4, _⟩ | ⟨g, c4, cur, h4, _, hg, _⟩
    · rw [h4]; intro e; cases e
    · rw [h4]
      intro e
      have e2 : g1 = g := Option.some.inj e
      subst e2
      rw [hg] at hg1
      have e3 := Option.some.inj hg1
      injection e3 with _ e4 _
      exact hne e4.symm
/-- 128 lists: list k, the value V k, holds the numbers of F k; all lie in different blocks. -/
structure Lsts (base g : Nat) (V : Nat → Value) (F : Nat → List Int) (w : World) : Prop where
  row : w.ownsRow base 28 1 (.slice (some ⟨g, 0, none⟩) 128 128) 128 ((List.range 128).map V)
  one : ∀ k, k < 128 → w.ownsRow base 3 1 (V k) (F k).length (intsV (F k))
  far : ∀ k l, k < 128 → l < 128 → k ≠ l → Apart (V k) (V l)
section
variable {base g : Nat} {V : Nat → Value} {F : Nat → List Int} {w w' : World}
theorem Lsts.gb (h : Lsts base g V F w) (hg : w.grownBy w' none) : Lsts base g V F w' := ⟨own_none h.row hg, fun k hk => own_none (h.one k hk) hg, h.far⟩
theorem Lsts.cell (h : Lsts base g V F w) {k : Nat} (hk : k < 128) : w.cell? ⟨g, k, none⟩ = some (V k) := by
  have := h.row.cellAt k hk
  rw [this, List.getElem?_map, List.getElem?_range hk]
  rfl
theorem Lsts.kept {k : Nat} {o : Obj} (h : Lsts base g V F w) (hk : k < 128) (hg : (w.alloc o).grownBy w' (V k).ownBlock) : w'.ownsRow base 28 1 (.slice (some ⟨g, 0, none⟩) 128 128) 128 ((List.range 128).map V) := by
  have h2 := h.gb (gb_alloc (gb_refl w none) o)
  exact h2.row.kept hg (own_kind h2.row (h2.one k hk) (by decide))
/-- List k has one number more. -/
theorem Lsts.app {k q cap : Nat} {o : Obj} {x : Int} (h : Lsts base g V F w) (hk : k < 128) (ho : w'.ownsRow base 3 1 (.slice (some ⟨q, 0, none⟩) ((F k).length + 1) cap) ((F k).length + 1) (intsV (F k) ++ [.int .i64 x]))
    (hg : (w.alloc o).grownBy w' (V k).ownBlock) (hat : (V k).ownBlock = some q ∨ q = (w.alloc o).heap.size) {F' : Nat → List Int} (hF : ∀ l, l < 128 → F' l = if l = k then F k ++ [x] else F l) :
    Lsts base g (fun l => if l = k then .slice (some ⟨q, 0, none⟩) ((F k).length + 1) cap else V l) F' (w'.setCell ⟨g, k, none⟩ (.slice (some ⟨q, 0, none⟩) ((F k).length + 1) cap)) := by
  have h2 := h.gb (gb_alloc (gb_refl w none) o)
  have hr := h.kept hk hg
  obtain ⟨h3, h4⟩ := hr.stored k (.slice (some ⟨q, 0, none⟩) ((F k).length + 1) cap)
  have hin : ∀ {v : Value} {n : Nat} {xs : List Value}, w'.ownsRow base 3 1 v n xs → (w'.setCell ⟨g, k, none⟩ (.slice (some ⟨q, 0, none⟩) ((F k).length + 1) cap)).ownsRow base 3 1 v n xs := fun hv => hv.kept h4 (own_kind hv hr (by decide))
  have hsz : (w.alloc o).heap.size = w.heap.size + 1 := alloc_size _ _
  refine ⟨?_, fun l hl => ?_, fun l m hl hm hne => ?_⟩
  · have e : (List.range 128).map (fun l => if l = k then Value.slice (some ⟨q, 0, none⟩) ((F k).length + 1) cap else V l) = ((List.range 128).map V).set k (.slice (some ⟨q, 0, none⟩) ((F k).length + 1) cap) := by
      apply List.ext_getElem (by simp only [List.length_map, List.length_range, List.length_set])
      intro i h5 h6
      rw [List.getElem_map, List.getElem_range, List.getElem_set, List.getElem_map, List.getElem_range]
      by_cases e : i = k
      · rw [if_pos e, if_pos e.symm]
      · rw [if_neg e, if_neg (fun e2 => e e2.symm)]
    rw [e]
    exact h3
  · rw [hF l hl]
    by_cases e : l = k
    · rw [if_pos e, if_pos e]
      refine hin ?_
      rw [List.length_append, intsV_append]
      exact ho
    · rw [if_neg e, if_neg e]
      exact hin (row_kept (h2.one l hl) hg (fun j e2 e3 => h.far k l hk hl (fun e4 => e e4.symm) j e2 e3))
  · by_cases e : l = k
    · subst e
      rw [if_pos rfl, if_neg (fun e2 => hne e2.symm)]
      intro j e2 e3
      have e4 : q = j := Option.some.inj e2
      subst e4
      rcases hat with h5 | h5
      · exact h.far l m hl hm hne q h5 e3
      · have := ((h.one m hm).lt q e3).2
        omega
    · rw [if_neg e]
      by_cases e1 : m = k
      · subst e1
        rw [if_pos rfl]
        intro j e2 e3
        have e4 : q = j := Option.some.inj e3
        subst e4
        rcases hat with h5 | h5
        · exact h.far l m hl hm hne q e2 h5
        · have := ((h.one l hl).lt q e2).2
          omega
      · rw [if_neg e1]
        exact h.far l m hl hm hne
end
/-- The lists as another function reads them. -/
def LstsIn (w : World) (B g : Nat) (F : Nat → List Int) : Prop := g < B ∧ ∀ k, k < 128 → ∃ A c, w.cell? ⟨g, k, none⟩ = some (.slice A (F k).length c) ∧ IntAt w B A (F k).length (F k)
theorem LstsIn.below {w w' : World} {B g : Nat} {F : Nat → List Int} (h : LstsIn w B g F) (hb : Below B w w') : LstsIn w' B g F :=
  ⟨h.1, fun k hk => by
    obtain ⟨A, c, h1, h2⟩ := h.2 k hk
    exact ⟨A, c, (World.cell?_of_block (hb.block g h.1)).trans h1, h2.below hb⟩⟩
theorem LstsIn.more {w : World} {B B' g : Nat} {F : Nat → List Int} (h : LstsIn w B g F) (hB : B ≤ B') : LstsIn w B' g F :=
  ⟨Nat.lt_of_lt_of_le h.1 hB, fun k hk => by
    obtain ⟨A, c, h1, h2⟩ := h.2 k hk
    exact ⟨A, c, h1, h2.more hB⟩⟩
theorem Lsts.read {base g : Nat} {V : Nat → Value} {F : Nat → List Int} {w : World} (h : Lsts base g V F w) {B : Nat} (hB : w.heap.size ≤ B) : LstsIn w B g F := by
  refine ⟨Nat.lt_of_lt_of_le (h.row.lt g rfl).2 hB, fun k hk => ?_⟩
  have h1 := h.one k hk
  obtain ⟨A, c, e, _⟩ := own_form h1
  refine ⟨A, c, by rw [h.cell hk, e], ?_⟩
  rw [e] at h1
  exact intAt_own h1 rfl hB

/-- A new row of 128 empty lists. -/
theorem made_rows : ∃ c : Array Value, (∀ w : World, (Instr.makeSlice 85 (.int .i64 128) (.int .i64 128)).run Try.prog w = .ok (.slice (some ⟨w.heap.size, 0, none⟩) 128 128) (w.alloc (.cells c 28))) ∧
    ∀ w : World, (w.alloc (.cells c 28)).ownsRow w.heap.size 28 1 (.slice (some ⟨w.heap.size, 0, none⟩) 128 128) 128 ((List.range 128).map fun _ => Value.slice none 0 0) := by
  obtain ⟨i0, hi, hz0, hz1, hz2⟩ := info_parts info_rows
  refine ⟨madeCells #[Value.slice none 0 0] 128, fun w => ?_, fun w => ?_⟩
  · have := run_make (P := Try.prog) w 85 28 i0 (.slice none 0 0) Try.underlying85 hi hz0 .i64 .i64 128 128 (by decide) (by decide) (by rw [hz2]; decide) (by decide)
    rw [hz1] at this
    simpa [Value.cells] using this
  · have := World.ownsRow_lit (base := w.heap.size) (e := 28) (size := 1) w (madeCells #[Value.slice none 0 0] 128) 128 (Nat.le_refl _) (by decide) (by simp [madeCells])
    rw [toList_madeCells_one] at this
    have e : List.replicate 128 (Value.slice none 0 0) = (List.range 128).map fun _ => Value.slice none 0 0 := by
      apply List.ext_getElem (by simp only [List.length_map, List.length_range, List.length_replicate])
      intro i h1 h2
      rw [List.getElem_map, List.getElem_replicate]
    rw [e] at this
    exact this
/-- A new row of lists. -/
def NewLsts (F : Nat → List Int) (w : World) (e : Ending) (w' : World) : Prop :=
  ∃ g V, e = .returned (.slice (some ⟨g, 0, none⟩) 128 128) ∧ Lsts w.heap.size g V F w' ∧ Below w.heap.size w w'

theorem gb_udr {a b : World} {row : Option Nat} (h : a.drew.grownBy b row) : a.grownBy b row := ⟨h.os, h.tape, h.output, h.size, h.block⟩
theorem row_cell {w : World} {base g k : Nat} {V : Nat → Value} (h : w.ownsRow base 28 1 (.slice (some ⟨g, 0, none⟩) 128 128) 128 ((List.range 128).map V)) (hk : k < 128) : w.cell? ⟨g, k, none⟩ = some (V k) := by
  rw [h.cellAt k hk, List.getElem?_map, List.getElem?_range hk]
  rfl
theorem box_kept {w w' : World} {base g n : Nat} {v : Value} {xs : List Value} {t : TypeId} {cs : Array Value} {o : Obj} (ho : w.ownsRow base 3 1 v n xs) (hb : Blk w g t cs) (hne : 3 ≠ t) (hg : (w.alloc o).grownBy w' v.ownBlock) : Blk w' g t cs :=
  (hb.alloc o).grown hg (fun e => own_ne ho hb hne e.symm)
theorem lsts_put {G g k m q cap H : Nat} {V : Nat → Value} {D : List Dep} {N : Nat} {w w' : World} {o : Obj} {x : Int} (h : Lsts G g V (fun c => waitD (D.take N) (c : Int)) w) (hk : k < 128) (hm : (waitD (D.take N) (k : Int)).length = m)
    (ho : w'.ownsRow G 3 1 (.slice (some ⟨q, 0, none⟩) (m + 1) cap) (m + 1) (intsV (waitD (D.take N) (k : Int)) ++ [.int .i64 x])) (hg : (w.alloc o).grownBy w' (V k).ownBlock) (hat : (V k).ownBlock = some q ∨ q = H) (hH : (w.alloc o).heap.size = H)
    (hF : ∀ l : Nat, l < 128 → waitD (D.take (N + 1)) (l : Int) = if l = k then waitD (D.take N) (k : Int) ++ [x] else waitD (D.take N) (l : Int)) :
    Lsts G g (fun l => if l = k then .slice (some ⟨q, 0, none⟩) (m + 1) cap else V l) (fun c => waitD (D.take (N + 1)) (c : Int)) (w'.setCell ⟨g, k, none⟩ (.slice (some ⟨q, 0, none⟩) (m + 1) cap)) := by
  subst hm
  exact h.app hk ho hg (by rw [hH]; exact hat) hF
theorem lsts_below {G g k : Nat} {V : Nat → Value} {F : Nat → List Int} {a w w' : World} {o : Obj} {xs : List Value} (h : Lsts G g V F w ∧ Below G a w) (ha : a.heap.size = G) (hk : k < 128) (hg : (w.alloc o).grownBy w' (V k).ownBlock) (hr : w'.ownsRow G 28 1 (.slice (some ⟨g, 0, none⟩) 128 128) 128 xs) (u : Value) :
    Below G a (w'.setCell ⟨g, k, none⟩ u) := by
  have h1 := h.2.size
  have h2 : Below G a w' := (h.2.alloc (by omega) o).grown hg (by rw [alloc_size]; omega) (fun j e => ((h.1.one k hk).lt j e).1)
  exact h2.grown (hr.stored k u).2 (by have := h2.size; omega) (fun j e => by cases e; exact (hr.lt g rfl).1)

set_option maxHeartbeats 1600000 in
theorem implWaiters (A : Option Addr) (n cap : Nat) (D : List Dep) (w : World) (h : DepAt w w.heap.size A n D) (hok : okD D = true) (hn : n ≤ 1000000000) :
    Calls Try.prog 115 #[.slice A n cap] w (NewLsts (fun c => waitD D (c : Int)) w) := by
  obtain ⟨i0, hi, hz0, hz1, hz2⟩ := info_parts info_int
  obtain ⟨cz, hmk, hown⟩ := made_rows
  have HI := Lib.hid h
  have hl := h.1
  have HOK := Lib.hid hok
  have X0 := Lib.hid (show Lsts w.heap.size w.heap.size (fun _ => .slice none 0 0) (fun c => waitD (D.take 0) (c : Int)) (w.alloc (.cells cz 28)) ∧ Below w.heap.size w (w.alloc (.cells cz 28)) from
    ⟨⟨hown w, fun k hk => World.ownsRow_nil _ _ _ _, fun k l _ _ _ => apart_none _⟩, (Below.refl _ _).alloc (Nat.le_refl _) _⟩)
  clear h hown hok
  obtain ⟨G, hG⟩ : ∃ G, w.heap.size = G := ⟨_, rfl⟩
  have HG := Lib.hid hG
  go_enter Try.func115, Try.ntmps115
  go_wp2_with fail
  simp only [hG] at X0 ⊢
  clear hG
  go_loopw [9] (fun i wr => ∃ (k : Nat) (V : Nat → Value), i = .int .i64 (k : Int) ∧ k ≤ n ∧ Lsts G G V (fun c => waitD (D.take k) (c : Int)) wr ∧ Below G w wr) (fun i _ => n - (intOf i).toNat)
  case atStart => exact ⟨0, _, rfl, Nat.zero_le _, X0.out⟩
  case round =>
    obtain ⟨k, V, rfl, hk, hx⟩ := hrel
    have X1 := Lib.hid hx
    clear hx
    by_cases hlt : k < n
    · have hai := HI.out.below (HG.out.symm ▸ X1.out.2)
      obtain ⟨b1, off, rfl, hb1, c0, c1⟩ := hai.at k hlt
      have hkl : k < D.length := by omega
      have hin := inD_iff.1 (okD_in HOK.out (atD_mem hkl))
      obtain ⟨p, hp⟩ : ∃ p, (atD D k).1 = p := ⟨_, rfl⟩
      obtain ⟨c, hc⟩ : ∃ c : Nat, (atD D k).2 = (c : Int) := ⟨(atD D k).2.toNat, by omega⟩
      have hc128 : c < 128 := by omega
      have HF := Lib.hid (show ∀ l : Nat, l < 128 → waitD (D.take (k + 1)) (l : Int) = if l = c then waitD (D.take k) (c : Int) ++ [p] else waitD (D.take k) (l : Int) from fun l hl => by
        rw [wait_take hkl, hc, hp]
        by_cases e : l = c
        · subst e; simp
        · rw [if_neg e, if_neg (by omega)])
      rw [hp] at c0
      rw [hc] at c1
      have hlen : (waitD (D.take k) (c : Int)).length ≤ k := Nat.le_trans (wait_length _ _) (by simp; omega)
      obtain ⟨m, hm⟩ : ∃ m, (waitD (D.take k) (c : Int)).length = m := ⟨_, rfl⟩
      rw [hm] at hlen
      have ho := X1.out.1.one c hc128
      simp only [hm] at ho
      have hv := X1.out.1.cell hc128
      obtain ⟨Ao, co, e, _⟩ := own_form ho
      rw [e] at hv ho
      have HV := Lib.hid e
      have HM := Lib.hid hm
      have HC128 := Lib.hid hc128
      have k0 : (0 : Int) ≤ (k : Int) := by omega
      have k1 : (k : Int) < (n : Int) := by omega
      have d0 : (0 : Int) ≤ (c : Int) := by omega
      have d1 : (c : Int) < 128 := by omega
      have b3 : ∀ u ∈ [Value.int .i64 p], u.oneCell' = true := by simp [Value.oneCell']
      have b4 : m + 1 ≤ maxLen := by unfold maxLen; omega
      have b5 : (m + 1) * 8 ≤ 140737488355328 := by omega
      have HLT := Lib.hid hlt
      have X2 := Lib.hid (show Lsts G G V (fun c => waitD (D.take k) (c : Int)) (wr.alloc (.cells #[.int .i64 p, .int .i64 (c : Int)] 39)) ∧ Below G w (wr.alloc (.cells #[.int .i64 p, .int .i64 (c : Int)] 39)) from
        ⟨X1.out.1.gb (gb_alloc (gb_refl wr none) _), X1.out.2.alloc (by have := X1.out.2.size; have := HG.out; omega) _⟩)
      have o4 : ((wr.alloc (.cells #[.int .i64 p, .int .i64 (c : Int)] 39)).alloc (.cells #[.int .i64 p] 3)).drew.ownsRow G 3 1 (.slice Ao m co) m (intsV (waitD (D.take k) (c : Int))) := by
        have := (X2.out.1.one c hc128)
        simp only [hm, e] at this
        exact (this.alloc _).drew
      have s4 : G ≤ ((wr.alloc (.cells #[.int .i64 p, .int .i64 (c : Int)] 39)).alloc (.cells #[.int .i64 p] 3)).drew.heap.size := by
        show G ≤ ((wr.alloc (.cells #[.int .i64 p, .int .i64 (c : Int)] 39)).alloc (.cells #[.int .i64 p] 3)).heap.size
        rw [alloc_size]
        have := X2.out.2.size
        have := HG.out
        omega
      have hnb := World.news_of_block (w := ((wr.alloc (.cells #[.int .i64 p, .int .i64 (c : Int)] 39)).alloc (.cells #[.int .i64 p] 3)).drew) (B := wr.heap.size + 1) (cs := #[.int .i64 p]) (t := 3) (fr := (0, 0)) (by have h := heap_alloc_new (wr.alloc (.cells #[.int .i64 p, .int .i64 (c : Int)] 39)) (.cells #[.int .i64 p] 3); rw [alloc_size] at h; exact h)
      have hv2 : (wr.alloc (.cells #[.int .i64 p, .int .i64 (c : Int)] 39)).cell? ⟨G, c, none⟩ = some (.slice Ao m co) := (gb_alloc (gb_refl wr none) _).cell hv (by simp)
      have hv3 : ((wr.alloc (.cells #[.int .i64 p, .int .i64 (c : Int)] 39)).alloc (.cells #[.int .i64 p] 3)).cell? ⟨G, c, none⟩ = some (.slice Ao m co) := (gb_alloc (gb_refl _ none) _).cell hv2 (by simp)
      clear hai hin hp hc e hm hkl
      go_wp2_with fail
      go_region_law
        (first
          | (refine step_append_lies _ (by rfl) _ _ _ (by rfl) G 3 i0 _ 1 8 Try.underlying28 hi hz0 hz1 hz2 rfl (by omega) (.slice Ao m co) m (intsV (waitD (D.take k) (c : Int))) (by rfl) o4 ⟨wr.heap.size + 1, 0, none⟩ 1 1 [.int .i64 p] (by rfl) (by rfl) hnb b3 (by omega) b4 b5 s4 (wr.heap.size + 2) (by simp) ?_; intro g4 cap4 w5 hown5 hgrow5 hat5 hltg5; have hgr := gb_udr hgrow5; rw [← HV.out] at hgr hat5; have hr5 := X2.out.1.kept HC128.out hgr; have X5 := Lib.hid (lsts_put X2.out.1 HC128.out HM.out hown5 hgr hat5 (by simp) HF.out); have X6 := Lib.hid (lsts_below X2.out HG.out HC128.out hgr hr5 (.slice (some ⟨g4, 0, none⟩) (m + 1) cap4)); have B5 := box_kept (X2.out.1.one c HC128.out) (Blk.new wr 39 #[.int .i64 p, .int .i64 (c : Int)]) (by decide) hgr; have e0 : w5.cell? ⟨wr.heap.size, 0, none⟩ = some (.int .i64 p) := B5.cell 0; have e1 : w5.cell? ⟨wr.heap.size, 1, none⟩ = some (.int .i64 (c : Int)) := B5.cell 1; clear B5; have f5 := hr5.frozenAt c; have c5 := row_cell hr5 HC128.out; clear hgr hr5 hown5 hgrow5 hat5 hltg5)
          | fail)
      all_goals
        clear c0 c1 o4 s4 hnb hv hv2 hv3 f5 c5 e0 e1
        go_wp2_with fail
        go_roundw
        case rel => exact ⟨k + 1, _, by go_num, by have := HLT.out; omega, X5.out, X6.out⟩
        case measure => have := HLT.out; simp [intOf]; omega
    · obtain rfl : k = n := by omega
      have hD : D.take k = D := by rw [← hl]; exact List.take_length
      rw [hD] at X1
      go_wp2_with fail
      go_ret
      exact ⟨G, V, rfl, by rw [HG.out]; exact X1.out.1, by rw [HG.out]; exact X1.out.2⟩
end Go.Proofs.Ytcmlnokfjbglaaa
end

section
namespace Go.Proofs.Ytcmlnokfjbglaaa
open Go.ChangeShapes Go.WideShapes Go.ChangeAt Go.RowKit
set_option linter.unusedVariables false
set_option maxRecDepth 20000

/-- The shared variables: the lists of waiters, the steps X, the marked channels M. -/
structure Mk (a : World) (B pw ps pm gs cs g : Nat) (F : Nat → List Int) (X M : List Int) (vm : Value) (w : World) : Prop where
  bw : Blk w pw 85 #[.slice (some ⟨g, 0, none⟩) 128 128]
  bs : Blk w ps 28 #[.slice (some ⟨gs, 0, none⟩) 128 cs]
  bm : Blk w pm 28 #[vm]
  rs : w.ownsRow B 3 1 (.slice (some ⟨gs, 0, none⟩) 128 cs) 128 (intsV X)
  rm : w.ownsRow B 3 1 vm M.length (intsV M)
  ap : Apart (.slice (some ⟨gs, 0, none⟩) 128 cs) vm
  rr : LstsIn w B g F
  lb : Below B a w
  hb : B ≤ a.heap.size
  pB : B ≤ pm
  wm : pw ≠ pm
  sm : ps ≠ pm
section
variable {a : World} {B pw ps pm gs cs g : Nat} {F : Nat → List Int} {X M : List Int} {vm : Value} {w w' : World}
theorem Mk.sz (h : Mk a B pw ps pm gs cs g F X M vm w) : B ≤ w.heap.size := Nat.le_trans h.hb h.lb.size
theorem Mk.gb (h : Mk a B pw ps pm gs cs g F X M vm w) (hg : w.grownBy w' none) : Mk a B pw ps pm gs cs g F X M vm w' :=
  ⟨h.bw.grown hg (by simp), h.bs.grown hg (by simp), h.bm.grown hg (by simp), own_none h.rs hg, own_none h.rm hg, h.ap, h.rr.below (gb_below_none hg h.sz), h.lb.trans (gb_below_none hg h.sz), h.hb, h.pB, h.wm, h.sm⟩
theorem Mk.store (h : Mk a B pw ps pm gs cs g F X M vm w) (t : Nat) (x : Int) : Mk a B pw ps pm gs cs g F (X.set t x) M vm (w.setCell ⟨gs, t, none⟩ (.int .i64 x)) := by
  obtain ⟨h1, h2⟩ := h.rs.stored t (.int .i64 x)
  rw [intsV_set] at h1
  have hbel : Below B w (w.setCell ⟨gs, t, none⟩ (.int .i64 x)) := gb_below h2 h.sz (h.rs.lt gs rfl).1
  exact ⟨h.bw.grown h2 (fun e => own_ne h.rs h.bw (by decide) e.symm), h.bs.grown h2 (fun e => own_ne h.rs h.bs (by decide) e.symm), h.bm.grown h2 (fun e => own_ne h.rs h.bm (by decide) e.symm), h1,
    row_kept h.rm h2 (fun j e => by cases e; exact h.ap gs rfl), h.ap, h.rr.below hbel, h.lb.trans hbel, h.hb, h.pB, h.wm, h.sm⟩
/-- One marked channel more: the list's new block, and the variable that holds the list. -/
theorem Mk.app {q cap : Nat} {o : Obj} {x : Int} (h : Mk a B pw ps pm gs cs g F X M vm w) (ho : w'.ownsRow B 3 1 (.slice (some ⟨q, 0, none⟩) (M.length + 1) cap) (M.length + 1) (intsV M ++ [.int .i64 x]))
    (hg : (w.alloc o).grownBy w' vm.ownBlock) (hat : vm.ownBlock = some q ∨ q = (w.alloc o).heap.size) : Mk a B pw ps pm gs cs g F X (M ++ [x]) (.slice (some ⟨q, 0, none⟩) (M.length + 1) cap) (w'.setCell ⟨pm, 0, none⟩ (.slice (some ⟨q, 0, none⟩) (M.length + 1) cap)) := by
  have k := h.gb (gb_alloc (gb_refl w none) o)
  have kbm := k.bm.grown hg (fun e => own_ne k.rm k.bm (by decide) e.symm)
  have hb1 : Below B a w' := k.lb.grown hg k.sz (fun j e => (k.rm.lt j e).1)
  have hb2 : Below B w' (w'.setCell ⟨pm, 0, none⟩ (.slice (some ⟨q, 0, none⟩) (M.length + 1) cap)) := (Below.refl B w').grown (gb_setCell (gb_refl w' (some pm)) (.inl rfl) _) (Nat.le_trans h.hb hb1.size) (fun j e => by cases e; exact h.pB)
  have hs : w'.grownBy (w'.setCell ⟨pm, 0, none⟩ (.slice (some ⟨q, 0, none⟩) (M.length + 1) cap)) (some pm) := gb_setCell (gb_refl w' (some pm)) (.inl rfl) _
  have hrs : w'.ownsRow B 3 1 (.slice (some ⟨gs, 0, none⟩) 128 cs) 128 (intsV X) := row_kept k.rs hg (fun j e e2 => h.ap j e2 e)
  have hsz : (w.alloc o).heap.size = w.heap.size + 1 := alloc_size _ _
  refine ⟨(k.bw.grown hg (fun e => own_ne k.rm k.bw (by decide) e.symm)).far h.wm _, (k.bs.grown hg (fun e => own_ne k.rm k.bs (by decide) e.symm)).far h.sm _, ?_, row_kept hrs hs (fun j e => by cases e; exact own_ne hrs kbm (by decide)), ?_, ?_, ?_, hb1.trans hb2, h.hb, h.pB, h.wm, h.sm⟩
  · have := kbm.set_ 0 (.slice (some ⟨q, 0, none⟩) (M.length + 1) cap)
    simpa using this
  · rw [List.length_append, intsV_append]
    exact row_kept ho hs (fun j e => by cases e; exact own_ne ho kbm (by decide))
  · intro j e e2
    have e3 : q = j := Option.some.inj e2
    subst e3
    rcases hat with h1 | h1
    · exact h.ap q e h1
    · have := (h.rs.lt q e).2
      omega
  · exact (k.rr.below ((Below.refl B _).grown hg k.sz (fun j e => (k.rm.lt j e).1))).below hb2
end
theorem ints_get {w : World} {base g cap n : Nat} {L : List Int} (h : w.ownsRow base 3 1 (.slice (some ⟨g, 0, none⟩) n cap) n (intsV L)) {k : Nat} (hk : k < n) : w.cell? ⟨g, k, none⟩ = some (.int .i64 (L.getD k 0)) := by
  have hn := own_ints_length h
  exact ints_cell h k (L.getD k 0) (by rw [List.getD, List.getElem?_eq_getElem (by omega)]; rfl) hn
theorem getD_mem0 {L : List Int} {k : Nat} (h : k < L.length) : L.getD k 0 ∈ L := by
  rw [List.getD_eq_getElem?_getD, List.getElem?_eq_getElem h]
  exact List.getElem_mem h

set_option maxHeartbeats 1600000 in
theorem implMark (a : World) (B pw ps pm gs cs g : Nat) (F : Nat → List Int) (X M : List Int) (vm : Value) (c : Nat) (n : Int) (hc : c < 128) (hF : ∀ x ∈ F c, ∃ t : Nat, x = (t : Int) ∧ t < 128) (hM : M.length + (F c).length ≤ 2000000000)
    (w : World) (h : Mk a B pw ps pm gs cs g F X M vm w) :
    Calls Try.prog 131 #[.int .i64 (c : Int), .int .i64 n, .pointer (some ⟨pw, 0, none⟩), .pointer (some ⟨ps, 0, none⟩), .pointer (some ⟨pm, 0, none⟩)] w
      fun e w' => e = .returned (.tuple #[]) ∧ ∃ X' M' vm', markN n (F c) (X, M) (F c).length = (X', M') ∧ Mk a B pw ps pm gs cs g F X' M' vm' w' := by
  obtain ⟨i0, hi, hz0, hz1, hz2⟩ := info_parts info_int
  have X0 := Lib.hid h
  obtain ⟨A, cA, hA, hI⟩ := h.rr.2 c hc
  have HI := Lib.hid hI
  obtain ⟨W, hW⟩ : ∃ W, F c = W := ⟨_, rfl⟩
  obtain ⟨m, hm⟩ : ∃ m, W.length = m := ⟨_, rfl⟩
  rw [hW] at HI hA hF hM ⊢
  rw [hm] at HI hA hM ⊢
  have HF := Lib.hid hF
  have HML := Lib.hid hm
  have a0 : w.cell? ⟨pw, 0, none⟩ = some (.slice (some ⟨g, 0, none⟩) 128 128) := h.bw.cell 0
  have d0 : (0 : Int) ≤ (c : Int) := by omega
  have d1 : (c : Int) < 128 := by omega
  clear h hI hF hW hm
  go_enter Try.func131, Try.ntmps131
  go_wp2_with fail
  go_loopw [14] (fun i wr => ∃ (k : Nat) (X' M' : List Int) (vm : Value), i = .int .i64 (k : Int) ∧ k ≤ m ∧ markN n W (X, M) k = (X', M') ∧ M'.length ≤ M.length + k ∧ Mk a B pw ps pm gs cs g F X' M' vm wr) (fun i _ => m - (intOf i).toNat)
  case atStart => exact ⟨0, X, M, vm, rfl, Nat.zero_le _, rfl, Nat.le_refl _, X0.out⟩
  case round =>
    obtain ⟨k, X', M', vm, rfl, hk, hmk, hl, hx⟩ := hrel
    have X1 := Lib.hid hx
    have HMK := Lib.hid hmk
    obtain ⟨Av, cv, rfl, _⟩ := own_form hx.rm
    clear hx hmk
    by_cases hlt : k < m
    · obtain ⟨b1, off, rfl, hb1, c0⟩ := (HI.out.keep (fun p hp => World.cell?_of_block ((X1.out.lb.block p.block hp).trans (X0.out.lb.block p.block hp).symm))).at k hlt
      have hkW : k < W.length := by have := HML.out; omega
      obtain ⟨t, ht, ht128⟩ := HF.out _ (getD_mem0 hkW)
      rw [ht] at c0
      have HN := Lib.hid (show markN n W (X, M) (k + 1) = mark1 n (X', M') (t : Int) by rw [markN_next hkW, HMK.out, ht])
      have c1 := ints_get X1.out.rs ht128
      obtain ⟨y, hy⟩ : ∃ y, X'.getD t 0 = y := ⟨_, rfl⟩
      rw [hy] at c1
      have e0 : wr.cell? ⟨ps, 0, none⟩ = some (.slice (some ⟨gs, 0, none⟩) 128 cs) := X1.out.bs.cell 0
      have e1 : wr.cell? ⟨pm, 0, none⟩ = some (.slice Av M'.length cv) := X1.out.bm.cell 0
      have k0 : (0 : Int) ≤ (k : Int) := by omega
      have k1 : (k : Int) < (m : Int) := by omega
      have t0 : (0 : Int) ≤ (t : Int) := by omega
      have t1 : (t : Int) < 128 := by omega
      have HLT := Lib.hid hlt
      have HT := Lib.hid ht128
      have HY := Lib.hid hy
      have HL := Lib.hid hl
      clear hlt ht ht128 hy hl hkW
      by_cases hy0 : y = -1
      · subst hy0
        have HN2 := Lib.hid (HN.out.trans (mark_yes (by rw [Int.toNat_natCast]; exact HY.out)))
        have X2 := Lib.hid (X1.out.store t n)
        have f0 := X1.out.rs.frozenAt t
        have f1 : (wr.setCell ⟨gs, t, none⟩ (.int .i64 n)).cell? ⟨pm, 0, none⟩ = some (.slice Av M'.length cv) := X2.out.bm.cell 0
        have hsz : (wr.setCell ⟨gs, t, none⟩ (.int .i64 n)).heap.size = wr.heap.size := by simp
        have HNB := Lib.hid (show ((wr.setCell ⟨gs, t, none⟩ (.int .i64 n)).alloc (.cells #[.int .i64 (t : Int)] 3)).heap[wr.heap.size]? = some (.cells #[.int .i64 (t : Int)] 3) by have := heap_alloc_new (wr.setCell ⟨gs, t, none⟩ (.int .i64 n)) (.cells #[.int .i64 (t : Int)] 3); rw [hsz] at this; exact this)
        have b3 := Lib.hid (show ∀ u ∈ [Value.int .i64 (t : Int)], u.oneCell' = true by simp [Value.oneCell'])
        have b4 := Lib.hid (show M'.length + 1 ≤ maxLen by have := HL.out; unfold maxLen; omega)
        have b5 := Lib.hid (show (M'.length + 1) * 8 ≤ 140737488355328 by have := HL.out; omega)
        have b6 := Lib.hid (show B ≤ ((wr.setCell ⟨gs, t, none⟩ (.int .i64 n)).alloc (.cells #[.int .i64 (t : Int)] 3)).heap.size by rw [alloc_size, hsz]; have := X1.out.sz; omega)
        clear hsz
        go_wp2_with (at_builtin; refine wpList_append_lies _ rfl _ _ 28 rfl B 3 i0 (.int .i64 0) 1 8 Try.underlying28 hi hz0 hz1 hz2 rfl (by decide) _ M'.length _ rfl (X2.out.rm.alloc _) ⟨wr.heap.size, 0, none⟩ 1 1 [.int .i64 (t : Int)] rfl rfl (World.news_of_block HNB.out) b3.out (by decide) b4.out b5.out b6.out _ rfl ?_; intro g4 cap4 w4 hown4 hgrow4 hat4 hlt4; have X3 := Lib.hid (X2.out.app hown4 hgrow4 hat4); have B4 := Lib.hid ((X2.out.bm.alloc _).grown hgrow4 (fun e => own_ne X2.out.rm X2.out.bm (by decide) e.symm)); have f4 := B4.out.frozen 0; have f5 := B4.out.cell 0; clear hown4 hgrow4 hat4 hlt4)
        go_roundw
        case rel => exact ⟨k + 1, _, _, _, by go_num, by have := HLT.out; omega, HN2.out, by have := HL.out; simp; omega, X3.out⟩
        case measure => have := HLT.out; simp [intOf]; omega
      · have HN2 := Lib.hid (HN.out.trans (mark_no (by rw [Int.toNat_natCast, HY.out]; exact hy0)))
        have hyb : (y == -1) = false := by simpa using hy0
        clear hy0
        go_wp2_with fail
        go_roundw
        case rel => exact ⟨k + 1, X', M', _, by go_num, by have := HLT.out; omega, HN2.out, by have := HL.out; omega, X1.out⟩
        case measure => have := HLT.out; simp [intOf]; omega
    · obtain rfl : k = m := by omega
      go_wp2_with fail
      go_end0
      exact ⟨rfl, X', M', _, HMK.out, X1.out⟩
end Go.Proofs.Ytcmlnokfjbglaaa
end

section
namespace Go.Proofs.Ytcmlnokfjbglaaa
open Go.ChangeShapes Go.WideShapes Go.ChangeAt Go.RowKit
set_option linter.unusedVariables false
set_option maxRecDepth 20000

/-- The shared variables at the start. -/
theorem mk_start {w w1 : World} {g gs c1 : Nat} {F : Nat → List Int} (hr : LstsIn w w.heap.size g F)
    (o1 : w1.ownsRow ((w.alloc (.cells #[.slice (some ⟨g, 0, none⟩) 128 128] 85)).alloc (.cells #[.int .i64 (-1)] 3)).heap.size 3 1 (.slice (some ⟨gs, 0, none⟩) 128 c1) 128 (intsV (List.replicate 128 (-1))))
    (b1 : Below ((w.alloc (.cells #[.slice (some ⟨g, 0, none⟩) 128 128] 85)).alloc (.cells #[.int .i64 (-1)] 3)).heap.size ((w.alloc (.cells #[.slice (some ⟨g, 0, none⟩) 128 128] 85)).alloc (.cells #[.int .i64 (-1)] 3)) w1) :
    Mk w w.heap.size w.heap.size w1.heap.size (w1.heap.size + 1) gs c1 g F (List.replicate 128 (-1)) [] (.slice none 0 0) ((w1.alloc (.cells #[.slice (some ⟨gs, 0, none⟩) 128 c1] 28)).alloc (.cells #[.slice none 0 0] 28)) := by
  have e : ((w.alloc (.cells #[.slice (some ⟨g, 0, none⟩) 128 128] 85)).alloc (.cells #[.int .i64 (-1)] 3)).heap.size = w.heap.size + 2 := by rw [alloc_size, alloc_size]
  have hs := b1.size
  rw [e] at o1 hs
  have hb0 : Below w.heap.size w w1 := (((Below.refl w.heap.size w).alloc (Nat.le_refl _) _).alloc (by rw [alloc_size]; omega) _).trans (b1.mono (by omega))
  have hb1 := (hb0.alloc (by omega) (.cells #[.slice (some ⟨gs, 0, none⟩) 128 c1] 28)).alloc (by rw [alloc_size]; omega) (.cells #[.slice none 0 0] 28)
  have hbm := Blk.new (w1.alloc (.cells #[.slice (some ⟨gs, 0, none⟩) 128 c1] 28)) 28 #[.slice none 0 0]
  rw [alloc_size] at hbm
  exact ⟨((((Blk.new w 85 #[.slice (some ⟨g, 0, none⟩) 128 128]).alloc _).below b1 (by omega)).alloc _).alloc _, (Blk.new w1 28 #[.slice (some ⟨gs, 0, none⟩) 128 c1]).alloc _, hbm,
    ((own_less o1 (by omega)).alloc _).alloc _, World.ownsRow_nil _ _ _ _, apart_none _, hr.below hb1, hb1, Nat.le_refl _, by omega, by omega, by omega⟩

set_option maxHeartbeats 1600000 in
theorem implStepsTo (D : List Dep) (a : Nat) (ha : a < 128) (g : Nat) (hok : okD D = true) (hl : D.length ≤ 1000000000) (w : World) (h : LstsIn w w.heap.size g (fun c => waitD D (c : Int))) :
    Calls Try.prog 116 #[.slice (some ⟨g, 0, none⟩) 128 128, .int .i64 (a : Int)] w (NewI (toL D a) w) := by
  have HRR := Lib.hid h
  have HOK := Lib.hid hok
  have HREP := Lib.hid (fun b o w hx => libRepeat b o w hx)
  obtain ⟨B, hB⟩ : ∃ B, w.heap.size = B := ⟨_, rfl⟩
  have HMK := Lib.hid (fun (pw ps pm gs cs : Nat) (X M : List Int) (vm : Value) (c : Nat) (n : Int) (hc : c < 128) (hM : M.length ≤ 1000000000) (wr : World) (hx : Mk w B pw ps pm gs cs g (fun c => waitD D (c : Int)) X M vm wr) =>
    implMark w B pw ps pm gs cs g (fun c => waitD D (c : Int)) X M vm c n hc (fun x hx => by obtain ⟨t, h1, h2, _⟩ := wait_nat hok hx; exact ⟨t, h1, h2⟩) (by have := wait_length D (c : Int); omega) wr hx)
  have HB := Lib.hid hB
  have d0 : (0 : Int) ≤ (a : Int) := by omega
  have d1 : (a : Int) < 128 := by omega
  have HC0 := Lib.hid (show ((w.alloc (.cells #[.slice (some ⟨g, 0, none⟩) 128 128] 85)).alloc (.cells #[.int .i64 (-1)] 3)).cell? ⟨w.heap.size + 1, 0, none⟩ = some (.int .i64 (-1)) by
    have e : (w.alloc (.cells #[.slice (some ⟨g, 0, none⟩) 128 128] 85)).heap.size = w.heap.size + 1 := alloc_size _ _
    rw [← e]
    exact (Blk.new _ 3 #[.int .i64 (-1)]).cell 0)
  clear h hok hB
  go_enter Try.func116, Try.ntmps116
  go_wp2_with fail
  refine (HREP.out _ _ _ HC0.out).mono ?_
  rintro e w1 ⟨v1, rfl, o1, b1⟩
  obtain ⟨A1, c1, rfl, hA1⟩ := own_form o1
  obtain ⟨gs, rfl⟩ := hA1 (by omega)
  have X1 := Lib.hid (mk_start HRR.out o1 b1)
  clear o1 b1 hA1
  rw [HB.out] at X1
  go_wp2_with fail
  rw [HB.out]
  refine (HMK.out B w1.heap.size (w1.heap.size + 1) gs c1 _ [] _ a 1 ha (by simp) _ X1.out).mono ?_
  rintro e w2 ⟨rfl, X', M', vm, hm, hx⟩
  obtain ⟨M, hM, hq, hf⟩ := que_one HOK.out a
  rw [stepL_nil] at hM
  have hp := Prod.mk.inj (hm.symm.trans hM)
  obtain ⟨rfl, rfl⟩ := hp
  obtain ⟨ps, hps⟩ : ∃ ps, w1.heap.size = ps := ⟨_, rfl⟩
  rw [hps] at hx
  have X2 := Lib.hid hx
  have HQ := Lib.hid hq
  have HF := Lib.hid hf
  clear hm hM hx hq hf
  have eg : ∀ args w, (callFunc 131 args).run Try.prog w = .ok (.enter 131 args) w := fun args w => Try.call131 args w
  go_wp2_with fail
  (try rw [hps])
  clear hps
  go_loopw [8] (fun i wr => ∃ (k n : Nat) (M : List Nat) (vm : Value), i = .int .i64 (k : Int) ∧ Que D a k n M ∧ (∀ t, edgeB D t a = true → t ∈ M) ∧ (k < M.length → n ≤ distD D (M.getD k 0) a + 1) ∧ Mk w B B ps (ps + 1) gs c1 g (fun c => waitD D (c : Int)) (stepL D a M) (upI M) vm wr) (fun i _ => 200 - (intOf i).toNat)
  case atStart => exact ⟨0, 1, M, vm, rfl, HQ.out, HF.out, fun h => by omega, X2.out⟩
  case round =>
    obtain ⟨k, n, M, vm, rfl, hq, hf, hn, hx⟩ := hrel
    have hkM := hq.le
    have hM128 := que_few hq
    have e0 : wr.cell? ⟨ps, 0, none⟩ = some (.slice (some ⟨gs, 0, none⟩) 128 c1) := hx.bs.cell 0
    obtain ⟨Av, cv, hv, hAv⟩ := own_form hx.rm
    subst hv
    obtain ⟨m, hm⟩ : ∃ m, M.length = m := ⟨_, rfl⟩
    have hum : (upI M).length = m := (upI_len M).trans hm
    have e1 : wr.cell? ⟨ps + 1, 0, none⟩ = some (.slice Av m cv) := hum ▸ hx.bm.cell 0
    rw [hum] at hAv
    have HQ2 := Lib.hid hq
    have HF2 := Lib.hid hf
    have X3 := Lib.hid hx
    have HUM := Lib.hid hum
    by_cases hlt : k < m
    · obtain ⟨gm, hgm⟩ := hAv (by omega)
      subst hgm
      have hkM2 : k < M.length := by omega
      have hmem := getD_memN hkM2
      have hc := hq.rng _ hmem
      obtain ⟨M', hM', hq', hf', hn'⟩ := que_step HOK.out hq hf hkM2 (hn hkM2)
      have c0 := ints_get (hum ▸ hx.rm) hlt
      rw [upI_at hkM2] at c0
      have c2 := ints_get hx.rs hc
      rw [stepL_at hc, if_pos hmem] at c2
      have hdl := dist_le HOK.out (M.getD k 0) a
      obtain ⟨c, hcc⟩ : ∃ c, M.getD k 0 = c := ⟨_, rfl⟩
      rw [hcc] at c0 c2 hc hM' hq' hn' hdl
      obtain ⟨d, hd⟩ : ∃ d, distD D c a = d := ⟨_, rfl⟩
      rw [hd] at c2 hM' hq' hn' hdl
      have HC := Lib.hid (HMK.out B ps (ps + 1) gs c1 (stepL D a M) (upI M) (.slice (some ⟨gm, 0, none⟩) (upI M).length cv) c ((d : Int) + 1) hc (by omega))
      rw [show ((d + 1 : Nat) : Int) = (d : Int) + 1 by omega] at hM'
      have HM' := Lib.hid hM'
      have HQ' := Lib.hid hq'
      have HF' := Lib.hid hf'
      have HN' := Lib.hid (show k + 1 < M'.length → d + 1 ≤ distD D (M'.getD (k + 1) 0) a + 1 from hn')
      have hdw : IntKind.i64.wrap ((d : Int) + 1) = (d : Int) + 1 := IntWalk.i64_in _ (by omega)
      have k0 : (0 : Int) ≤ (k : Int) := by omega
      have k1 : (k : Int) < (m : Int) := by omega
      have g0 : (0 : Int) ≤ (c : Int) := by omega
      have g1 : (c : Int) < 128 := by omega
      have hk128 : k < 128 := by omega
      clear hq hf hn hx hum hm hkM hM128 hM' hq' hf' hn' hcc hd hmem hkM2 hAv hlt
      have X4 := Lib.hid (X3.out.gb (gb_drew (gb_refl wr none)))
      go_wp2_with fail
      go_still_tail 13, (by kernel_rfl)
      change wpList _ _ _ _ _ wr.drew
      go_wp2_with fail
      refine (HC.out _ X4.out).mono ?_
      rintro e w4 ⟨rfl, X', M'', vm', hm', hx'⟩
      obtain ⟨rfl, rfl⟩ := Prod.mk.inj (hm'.symm.trans HM'.out)
      have X5 := Lib.hid hx'
      clear hm' hx' e0 e1 c0 c2
      go_wp2_with fail
      go_roundw
      case rel => exact ⟨k + 1, d + 1, M', vm', by go_num, HQ'.out, HF'.out, HN'.out, X5.out⟩
      case measure => simp [intOf]; omega
    · have hkm : k = m := by omega
      subst hkm
      subst hm
      have HE := Lib.hid (que_end HOK.out hq hf)
      have k1 : ¬ ((M.length : Int) < (M.length : Int)) := by omega
      clear hq hf hn hx hum hkM hM128 hAv hlt
      go_wp2_with fail
      go_ret
      refine ⟨_, rfl, ?_, ?_⟩
      · rw [toL_len, ← HE.out, HB.out]
        exact X3.out.rs
      · rw [HB.out]
        exact X3.out.lb
end Go.Proofs.Ytcmlnokfjbglaaa
end

section
namespace Go.Proofs.Ytcmlnokfjbglaaa
open Go.ChangeShapes Go.WideShapes Go.ChangeAt Go.RowKit
set_option linter.unusedVariables false
set_option maxRecDepth 20000

theorem find_atI {p : Int → Bool} : ∀ {l : List Int} {k : Nat}, k < l.length → p (l.getD k 0) = true → (∀ j, j < k → p (l.getD j 0) = false) → l.find? p = some (l.getD k 0)
  | [], k, h, _, _ => by simp at h
  | x :: l, 0, _, h, _ => by
    have h' : p x = true := h
    rw [List.find?_cons, h']
    rfl
  | x :: l, k + 1, hk, h, hn => by
    have h0 : p x = false := hn 0 (by omega)
    rw [List.find?_cons, h0]
    have := find_atI (l := l) (k := k) (by simpa using hk) (by simpa using h) (fun j hj => by have := hn (j + 1) (by omega); simpa using this)
    simpa using this
theorem getD_memI0 {L : List Int} {k : Nat} (h : k < L.length) : L.getD k 0 ∈ L := by
  rw [List.getD_eq_getElem?_getD, List.getElem?_eq_getElem h]
  exact List.getElem_mem h
/-- The first i channels of the way. -/
def wayN (D : List Dep) (st b i : Nat) : List Int := (List.range i).map fun j => (atP D st b j : Int)
theorem wayN_len (D : List Dep) (st b i : Nat) : (wayN D st b i).length = i := by simp [wayN]
theorem wayN_all (D : List Dep) (st b : Nat) : wayN D st b b = cycP D st b := rfl
theorem wayN_next (D : List Dep) (st b i : Nat) : wayN D st b (i + 1) = wayN D st b i ++ [(atP D st b i : Int)] := cyc_next D st b i
/-- The successor that the program finds is the next one. -/
theorem way_hit {D : List Dep} (hD : okD D = true) {st b i k t : Nat} (hb : distD D st st = b) (hi : i + 1 < b) (hk : k < (succD D (atP D st b i : Int)).length) (ht : (succD D (atP D st b i : Int)).getD k 0 = (t : Int))
    (h : (toL D st).getD t 0 = ((b - 1 - i : Nat) : Int)) (hn : ∀ j, j < k → (toL D st).getD ((succD D (atP D st b i : Int)).getD j 0).toNat 0 ≠ ((b - 1 - i : Nat) : Int)) : atP D st b (i + 1) = t := by
  have h1 := nextW_is hD (st := st) (b := b) (left := b - 1 - i) (u := atP D st b i) hb (by omega) (by omega)
  have h2 : atP D st b (i + 1) = nextP D st (b - 1 - i) (atP D st b i) := by
    show nextP D st (b - i - 1) (atP D st b i) = _
    rw [show b - i - 1 = b - 1 - i by omega]
  rw [h2, ← h1]
  unfold nextW
  rw [find_atI (k := k) hk (by rw [ht, Int.toNat_natCast]; exact decide_eq_true h) (fun j hj => decide_eq_false (hn j hj)), ht]
  exact Int.toNat_natCast t
/-- There is one. -/
theorem way_found {D : List Dep} (hD : okD D = true) {st b i : Nat} (hst : st < 128) (hb : distD D st st = b) (hi : i + 1 < b) (hn : ∀ j, j < (succD D (atP D st b i : Int)).length → (toL D st).getD ((succD D (atP D st b i : Int)).getD j 0).toNat 0 ≠ ((b - 1 - i : Nat) : Int)) : False := by
  have h1 := path_dist hD hb (i := i + 1) hi
  have h2 := edge_succ.1 (path_edge hD hb (i := i) (by omega))
  obtain ⟨k, hk, e⟩ := List.getElem_of_mem h2
  have h3 := hn k hk
  have e2 : (succD D (atP D st b i : Int)).getD k 0 = (atP D st b (i + 1) : Int) := by rw [List.getD_eq_getElem?_getD, List.getElem?_eq_getElem hk, e]; rfl
  rw [e2, Int.toNat_natCast, toL_at (path_lt hD hb hi), h1, if_neg (by omega)] at h3
  exact h3 (by omega)
/-- The way so far. -/
def WyAt (w : World) (D : List Dep) (st b i : Nat) (v : Value) (wr : World) : Prop := wr.ownsRow w.heap.size 3 1 v i (intsV (wayN D st b i)) ∧ Below w.heap.size w wr
theorem WyAt.below {w wr w' : World} {D : List Dep} {st b i : Nat} {v : Value} (h : WyAt w D st b i v wr) (hb : Below wr.heap.size wr w') : WyAt w D st b i v w' :=
  ⟨own_none h.1 (gb_of_below hb none), below_gb h.2 (Nat.le_refl _) (gb_of_below hb none)⟩

set_option maxHeartbeats 1600000 in
theorem implWayBack (A AX : Option Addr) (n cap cX : Nat) (D : List Dep) (st b : Nat) (hst : st < 128) (hok : okD D = true) (hb : distD D st st = b) (hb1 : 1 ≤ b) (w : World) (h : DepAt w w.heap.size A n D) (hX : IntAt w w.heap.size AX 128 (toL D st)) (hn : n ≤ 1000000000) :
    Calls Try.prog 117 #[.slice A n cap, .slice AX 128 cX, .int .i64 (st : Int)] w (NewI (cycP D st b) w) := by
  obtain ⟨i0, hi, hz0, hz1, hz2⟩ := info_parts info_int
  obtain ⟨bX, oX, rfl, hbX, cX0⟩ := hX.at st (by omega)
  have hb128 : b ≤ 128 := hb ▸ dist_le hok st st
  rw [toL_at hst, hb, if_neg (by omega)] at cX0
  have HI := Lib.hid h
  have HX := Lib.hid (hX : IntAt w w.heap.size (some ⟨bX, oX, none⟩) 128 (toL D st))
  have HOK := Lib.hid hok
  have HBB := Lib.hid hb
  have HSU := Lib.hid (fun (c : Int) w h => implSuccessors A n cap D c w h (by omega))
  have hl := h.1
  have HSL := Lib.hid (fun x => (show (succD D x).length ≤ n from hl ▸ succ_length D x))
  have X0 := Lib.hid (show WyAt w D st b 1 (.slice (some ⟨w.heap.size, 0, none⟩) 1 1) (w.alloc (.cells #[.int .i64 (st : Int)] 3)) from
    ⟨World.ownsRow_lit (base := w.heap.size) (e := 3) (size := 1) w #[.int .i64 (st : Int)] 1 (Nat.le_refl _) (by decide) rfl, (Below.refl _ _).alloc (Nat.le_refl _) _⟩)
  have hbw : IntKind.i64.wrap ((b : Int) - 1) = ((b - 1 : Nat) : Int) := by rw [IntWalk.i64_in _ (by omega)]; omega
  have s0 : (0 : Int) ≤ (st : Int) := by omega
  have s1 : (st : Int) < 128 := by omega
  clear h hX hok hb hl
  go_enter Try.func117, Try.ntmps117
  go_wp2_with fail
  go_loopw [7, 8, 9] (fun v c l wr => ∃ i : Nat, i + 1 ≤ b ∧ c = .int .i64 (atP D st b i : Int) ∧ l = .int .i64 ((b - 1 - i : Nat) : Int) ∧ WyAt w D st b (i + 1) v wr) (fun _ _ l _ => (intOf l).toNat)
  case atStart => exact ⟨0, hb1, rfl, rfl, X0.out⟩
  case round =>
    obtain ⟨i, hib, rfl, rfl, hx⟩ := hrel
    have X1 := Lib.hid hx
    obtain ⟨Aw, cw, rfl, _⟩ := own_form hx.1
    clear hx
    by_cases hlt : i + 1 < b
    · obtain ⟨lf, hlf⟩ : ∃ lf, b - 1 - i = lf := ⟨_, rfl⟩
      have hl0 : (0 : Int) < (lf : Int) := by omega
      obtain ⟨u, hu⟩ : ∃ u, atP D st b i = u := ⟨_, rfl⟩
      have HU := Lib.hid hu
      have HLF := Lib.hid hlf
      have HLT := Lib.hid hlt
      rw [hlf, hu]
      clear hlf hu hlt
      go_wp2_with fail
      refine (HSU.out (u : Int) _ ((HI.out.below X1.out.2).more X1.out.2.size)).mono ?_
      rintro e w2 ⟨v2, rfl, o2, b2⟩
      have X2 := Lib.hid (X1.out.below b2)
      obtain ⟨S, hS⟩ : ∃ S, succD D (u : Int) = S := ⟨_, rfl⟩
      have HS := Lib.hid hS
      rw [hS] at o2
      obtain ⟨m, hm⟩ : ∃ m, S.length = m := ⟨_, rfl⟩
      have HM := Lib.hid hm
      rw [hm] at o2
      obtain ⟨As, cs, rfl, _⟩ := own_form o2
      have HSI := Lib.hid (intAt_own o2 hm (Nat.le_refl _))
      have hmn : m ≤ n := by rw [← hm, ← hS]; exact HSL.out (u : Int)
      clear o2 b2 hS hm
      go_wp2_with fail
      go_loop [28] (fun j => ∃ k : Nat, j = .int .i64 (k : Int) ∧ k ≤ m ∧ ∀ j, j < k → (toL D st).getD (S.getD j 0).toNat 0 ≠ (lf : Int)) (fun j => m - (intOf j).toNat)
      case atStart => exact ⟨0, rfl, Nat.zero_le _, fun j hj => by omega⟩
      case round =>
        obtain ⟨k, rfl, hk, hne⟩ := hrel
        have HNE := Lib.hid hne
        clear hne
        by_cases hlt : k < m
        · have hkS : k < S.length := by have := HM.out; omega
          obtain ⟨b1, off, rfl, hb1', c0⟩ := HSI.out.at k hlt
          have hin := succ_in HOK.out (c := (u : Int)) (x := S.getD k 0) (by rw [HS.out]; exact getD_memI0 hkS)
          obtain ⟨t, ht⟩ : ∃ t : Nat, S.getD k 0 = (t : Int) := ⟨(S.getD k 0).toNat, by omega⟩
          rw [ht] at c0 hin
          have ht128 : t < 128 := by omega
          obtain ⟨bx, ox, ex, _, c1⟩ := (HX.out.none (Nat.le_refl _) (gb_of_below X2.out.2 none)).at t ht128
          injection ex with ex
          injection ex with ex1 ex2
          subst ex1 ex2
          obtain ⟨y, hy⟩ : ∃ y, (toL D st).getD t 0 = y := ⟨_, rfl⟩
          rw [hy] at c1
          have HY := Lib.hid hy
          have HT := Lib.hid ht
          have k0 : (0 : Int) ≤ (k : Int) := by omega
          have k1 : (k : Int) < (m : Int) := by omega
          have t0 : (0 : Int) ≤ (t : Int) := by omega
          have t1 : (t : Int) < 128 := by omega
          have HLK := Lib.hid hlt
          have HKS := Lib.hid hkS
          clear hin ht hy ht128 hlt hkS
          by_cases hyl : y = (lf : Int)
          · have HA := Lib.hid (show atP D st b (i + 1) = t from way_hit HOK.out HBB.out HLT.out (by rw [HU.out, HS.out]; exact HKS.out) (by rw [HU.out, HS.out]; exact HT.out) (by rw [HY.out, HLF.out]; exact hyl) (by rw [HU.out, HS.out, HLF.out]; exact HNE.out))
            subst hyl
            have hnb := Lib.hid (World.news_of_block (w := w2.alloc (.cells #[.int .i64 (t : Int)] 3)) (B := w2.heap.size) (cs := #[.int .i64 (t : Int)]) (t := 3) (fr := (0, 0)) (heap_alloc_new w2 _))
            have b3 := Lib.hid (show ∀ u ∈ [Value.int .i64 (t : Int)], u.oneCell' = true by simp [Value.oneCell'])
            have b4 := Lib.hid (show i + 1 + 1 ≤ maxLen by unfold maxLen; omega)
            have b5 := Lib.hid (show (i + 1 + 1) * 8 ≤ 140737488355328 by omega)
            have b6 := Lib.hid (show w.heap.size ≤ (w2.alloc (.cells #[.int .i64 (t : Int)] 3)).heap.size by have := X2.out.2.size; rw [alloc_size]; omega)
            have hlw : IntKind.i64.wrap ((lf : Int) - 1) = ((lf - 1 : Nat) : Int) := by have := HLF.out; rw [IntWalk.i64_in _ (by omega)]; omega
            go_wp2_with (at_builtin; refine wpList_append_own _ rfl _ _ 28 rfl w.heap.size 3 i0 (.int .i64 0) 1 8 Try.underlying28 hi hz0 hz1 hz2 rfl (by decide) _ (i + 1) _ rfl (X2.out.1.alloc _) ⟨w2.heap.size, 0, none⟩ 1 1 [.int .i64 (t : Int)] rfl rfl hnb.out b3.out b4.out b5.out b6.out ?_; intro v' w4 hown4 hgrow4 _)
            have X4 := Lib.hid (show WyAt w D st b (i + 1 + 1) v' w4 from by
              refine ⟨by rw [wayN_next, HA.out, intsV_append]; exact hown4, ?_⟩
              exact (X2.out.2.alloc (by have := X2.out.2.size; omega) _).grown hgrow4 b6.out (fun j hj => (X2.out.1.lt j hj).1))
            clear hown4 hgrow4 c0 c1
            go_wp2_with fail
            go_roundw
            case rel => exact ⟨i + 1, by have := HLT.out; omega, by rw [HA.out], by have := HLF.out; go_num, X4.out⟩
            case measure => have := HLF.out; simp [intOf]; omega
          · have hyb : (y == (lf : Int)) = false := by simpa using hyl
            have HYL := Lib.hid hyl
            clear hyl
            go_wp2_with fail
            go_round
            case rel => exact ⟨k + 1, by go_num, by have := HLK.out; omega, fun j hj => by
              rcases Nat.lt_succ_iff_lt_or_eq.1 hj with h1 | rfl
              · exact HNE.out j h1
              · rw [HT.out, Int.toNat_natCast, HY.out]; exact HYL.out⟩
            case measure => have := HLK.out; simp [intOf]; omega
        · obtain rfl : k = m := by omega
          have hF := way_found HOK.out hst HBB.out HLT.out (by rw [HU.out, HS.out, HLF.out]; intro j hj; exact HNE.out j (by rw [HM.out] at hj; exact hj))
          exact hF.elim
    · obtain rfl : b = i + 1 := by omega
      have e0 : i + 1 - 1 - i = 0 := by omega
      rw [e0]
      go_wp2_with fail
      go_ret
      exact ⟨_, rfl, by rw [cyc_len]; exact X1.out.1, X1.out.2⟩
end Go.Proofs.Ytcmlnokfjbglaaa
end

section
namespace Go.Proofs.Ytcmlnokfjbglaaa
open Go.ChangeShapes Go.WideShapes Go.ChangeAt Go.RowKit
set_option linter.unusedVariables false
set_option maxRecDepth 20000

/-- The shortest cycle through the first channels. -/
def ShAt (w : World) (D : List Dep) (c : Nat) (v : Value) (wr : World) : Prop := wr.ownsRow w.heap.size 3 1 v (bestTo D c).1 (intsV (cycP D (bestTo D c).2.toNat (bestTo D c).1)) ∧ Below w.heap.size w wr
theorem ShAt.below {w wr w' : World} {D : List Dep} {c : Nat} {v : Value} (h : ShAt w D c v wr) (hb : Below wr.heap.size wr w') : ShAt w D c v w' :=
  ⟨own_none h.1 (gb_of_below hb none), below_gb h.2 (Nat.le_refl _) (gb_of_below hb none)⟩
theorem ShAt.pass {w wr : World} {D : List Dep} {c : Nat} {v : Value} (h : ShAt w D c v wr) (k : ¬ (0 < distD D c c ∧ ((bestTo D c).1 = 0 ∨ distD D c c < (bestTo D c).1))) : ShAt w D (c + 1) v wr := by
  unfold ShAt
  rw [best_pass k]
  exact h
theorem ShAt.take {w wr w' : World} {D : List Dep} {c d : Nat} {v v' : Value} (h : ShAt w D c v wr) (hd : distD D c c = d) (k : 0 < distD D c c ∧ ((bestTo D c).1 = 0 ∨ distD D c c < (bestTo D c).1)) (ho : w'.ownsRow wr.heap.size 3 1 v' (cycP D c d).length (intsV (cycP D c d))) (hb : Below wr.heap.size wr w') : ShAt w D (c + 1) v' w' := by
  unfold ShAt
  rw [best_take k.1 k.2, hd]
  rw [cyc_len] at ho
  exact ⟨own_less ho h.2.size, below_gb h.2 (Nat.le_refl _) (gb_of_below hb none)⟩
theorem implShortest (A : Option Addr) (n cap : Nat) (D : List Dep) (w : World) (h : DepAt w w.heap.size A n D) (hn : n ≤ 1000000000) :
    Calls Try.prog 95 #[.slice A n cap] w (NewI (cycG D) w) := by
  have HI := Lib.hid h
  have hl := h.1
  have HOKC := Lib.hid (fun w h => implDependsOk A n cap D w h (by omega))
  clear h
  cases hok : okD D with
  | false =>
    rw [cyc_bad hok]
    rw [hok] at HOKC
    clear hok
    go_enter Try.func95, Try.ntmps95
    go_wp2_with fail
    refine (HOKC.out _ HI.out).mono ?_
    rintro e w1 ⟨rfl, hg⟩
    go_wp2_with fail
    go_ret
    exact ⟨_, rfl, World.ownsRow_nil _ _ _ _, gb_below_none hg (Nat.le_refl _)⟩
  | true =>
    rw [cyc_ok hok]
    have HWA := Lib.hid (fun w h => implWaiters A n cap D w h hok hn)
    have HTO := Lib.hid (fun a ha g w h => implStepsTo D a ha g hok (by omega) w h)
    have HWB := Lib.hid (fun AX cX st b hst hb hb1 w h hX => implWayBack A AX n cap cX D st b hst hok hb hb1 w h hX hn)
    have HOK := Lib.hid hok
    rw [hok] at HOKC
    clear hok
    go_enter Try.func95, Try.ntmps95
    go_wp2_with fail
    refine (HOKC.out _ HI.out).mono ?_
    rintro e w1 ⟨rfl, hg⟩
    have HG1 := Lib.hid hg
    have HI1 := Lib.hid ((HI.out.none (Nat.le_refl _) hg).more hg.size)
    clear hg
    go_wp2_with fail
    refine (HWA.out _ HI1.out).mono ?_
    rintro e w2 ⟨g, V, rfl, hx, hb2⟩
    have HR := Lib.hid (hx.read (Nat.le_refl _))
    have HI2 := Lib.hid ((HI1.out.below hb2).more hb2.size)
    have HB2 := Lib.hid (show Below w.heap.size w w2 from (gb_below_none HG1.out (Nat.le_refl _)).trans (hb2.mono HG1.out.size))
    clear hx hb2
    go_wp2_with fail
    go_loopw [4, 12] (fun v i wr => ∃ c : Nat, i = .int .i64 (c : Int) ∧ c ≤ 128 ∧ ShAt w2 D c v wr) (fun _ i _ => 128 - (intOf i).toNat)
    case atStart => exact ⟨0, rfl, Nat.zero_le _, World.ownsRow_nil _ _ _ _, Below.refl _ _⟩
    case round =>
      obtain ⟨c, rfl, hc, hx⟩ := hrel
      have X1 := Lib.hid hx
      obtain ⟨As, cs, rfl, _⟩ := own_form hx.1
      obtain ⟨m, hm⟩ : ∃ m, (bestTo D c).1 = m := ⟨_, rfl⟩
      have HM := Lib.hid hm
      clear hx
      rw [hm]
      clear hm
      by_cases hlt : c < 128
      · have c0 : (0 : Int) ≤ (c : Int) := by omega
        have c1 : (c : Int) < 128 := by omega
        go_wp2_with fail
        refine (HTO.out c hlt g _ ((HR.out.below X1.out.2).more X1.out.2.size)).mono ?_
        rintro e w3 ⟨v3, rfl, o3, b3⟩
        rw [toL_len] at o3
        have X3 := Lib.hid (X1.out.below b3)
        obtain ⟨A3, cap3, rfl, hA3⟩ := own_form o3
        obtain ⟨g3, rfl⟩ := hA3 (by omega)
        have e0 := ints_get o3 hlt
        rw [toL_at hlt] at e0
        have HX3 := Lib.hid (intAt_own o3 (toL_len D c) (Nat.le_refl _))
        obtain ⟨d, hd⟩ : ∃ d, distD D c c = d := ⟨_, rfl⟩
        rw [hd] at e0
        have HD := Lib.hid hd
        clear o3 b3 hA3 hd
        by_cases hd0 : d = 0
        · rw [if_pos hd0] at e0
          have HP := Lib.hid (X3.out.pass (by rw [HD.out]; omega))
          clear hd0
          go_wp2_with fail
          go_roundw
          case rel => exact ⟨c + 1, by go_num, by omega, by rw [← HM.out] at *; exact HP.out⟩
          case measure => simp [intOf]; omega
        · rw [if_neg hd0] at e0
          have hdb : ((d : Int) == -1) = false := beq_eq_false_iff_ne.2 (by omega)
          have h0 : ¬ (d : Int) = -1 := by omega
          by_cases hm0 : m = 0
          · have HT := Lib.hid (fun (v' : Value) (w' : World) (ho : w'.ownsRow w3.heap.size 3 1 v' (cycP D c d).length (intsV (cycP D c d))) (hb : Below w3.heap.size w3 w') => X3.out.take HD.out (by rw [HD.out, HM.out]; omega) ho hb)
            have HI3 := Lib.hid ((HI2.out.below X3.out.2).more X3.out.2.size)
            subst hm0
            clear hdb
            go_wp2_with fail
            refine (HWB.out _ _ c d hlt HD.out (by omega) _ HI3.out HX3.out).mono ?_
            rintro e w4 ⟨v4, rfl, o4, b4⟩
            have X4 := Lib.hid (HT.out _ _ o4 b4)
            clear o4 b4
            go_wp2_with fail
            go_roundw
            case rel => exact ⟨c + 1, by go_num, by omega, X4.out⟩
            case measure => simp [intOf]; omega
          · by_cases hdm : d < m
            · have HT := Lib.hid (fun (v' : Value) (w' : World) (ho : w'.ownsRow w3.heap.size 3 1 v' (cycP D c d).length (intsV (cycP D c d))) (hb : Below w3.heap.size w3 w') => X3.out.take HD.out (by rw [HD.out, HM.out]; omega) ho hb)
              have HI3 := Lib.hid ((HI2.out.below X3.out.2).more X3.out.2.size)
              have m0 : ¬ (m : Int) = 0 := by omega
              have m1 : ((m : Int) == 0) = false := by simpa using hm0
              have m2 : (d : Int) < (m : Int) := by omega
              go_wp2_with fail
              refine (HWB.out _ _ c d hlt HD.out (by omega) _ HI3.out HX3.out).mono ?_
              rintro e w4 ⟨v4, rfl, o4, b4⟩
              have X4 := Lib.hid (HT.out _ _ o4 b4)
              clear o4 b4
              go_wp2_with fail
              go_roundw
              case rel => exact ⟨c + 1, by go_num, by omega, X4.out⟩
              case measure => simp [intOf]; omega
            · have HP := Lib.hid (X3.out.pass (by rw [HD.out, HM.out]; omega))
              have m0 : ¬ (m : Int) = 0 := by omega
              have m1 : ((m : Int) == 0) = false := by simpa using hm0
              have m2 : ¬ (d : Int) < (m : Int) := by omega
              go_wp2_with fail
              go_roundw
              case rel => exact ⟨c + 1, by go_num, by omega, by rw [← HM.out] at *; exact HP.out⟩
              case measure => simp [intOf]; omega
      · obtain rfl : c = 128 := by omega
        have HE := Lib.hid (show NewI (cycP D (bestTo D 128).2.toNat (bestTo D 128).1) w (.returned (.slice As m cs)) wr from ⟨_, rfl, by rw [cyc_len, HM.out]; rw [← HM.out]; have := X1.out.1; rw [HM.out] at this ⊢; exact own_less this HB2.out.size, HB2.out.trans (X1.out.2.mono HB2.out.size)⟩)
        go_wp2_with fail
        go_ret
        exact HE.out
end Go.Proofs.Ytcmlnokfjbglaaa
end

section
namespace Go.Proofs.Ytcmlnokfjbglaaa
open Go.ChangeShapes Go.WideShapes Go.ChangeAt Go.RowKit
set_option linter.unusedVariables false
set_option maxRecDepth 20000

/-- The verdict on a list. -/
def judgeG (D : List Dep) : Verd := if canO D = true then ⟨1, ranksO D, []⟩ else ⟨2, [], cycG D⟩
theorem judge_safe {D : List Dep} (k : canO D = true) : judgeG D = ⟨1, ranksO D, []⟩ := if_pos k
theorem judge_cyc {D : List Dep} (k : canO D = false) : judgeG D = ⟨2, [], cycG D⟩ := if_neg (by simp [k])
theorem judge_verd {W H : Int} {L P : List Int} (h : tableG W H L P = true) : verdG W H L P = judgeG (depG W H L P) := if_pos h
theorem judge_len (D : List Dep) : (judgeG D).ranks.length ≤ 128 ∧ (judgeG D).cycle.length ≤ 128 := by
  have h1 := ranksO_len D
  have h2 := cycG_le D
  unfold judgeG
  split <;> exact ⟨by simp; try omega, by simp; try omega⟩
set_option maxHeartbeats 1600000 in
theorem implJudge (A : Option Addr) (n cap : Nat) (D : List Dep) (w : World) (h : DepAt w w.heap.size A n D) (hn : n ≤ 1000000000) :
    Calls Try.prog 61 #[.slice A n cap] w (NewV (judgeG D) w) := by
  have K0 := Lib.hid (Blk.new w 48 #[.int .i64 0, .slice none 0 0, .slice none 0 0])
  have G0 := Lib.hid (gb_alloc (gb_refl w none) (.cells #[.int .i64 0, .slice none 0 0, .slice none 0 0] 48))
  have HD0 := Lib.hid ((h.below (gb_below_none G0.out (Nat.le_refl _))).more G0.out.size)
  have HOR := Lib.hid (fun w h => implOrderOf A n cap D w h hn)
  have HSC := Lib.hid (fun w h => implShortest A n cap D w h hn)
  have HV1 := Lib.hid (fun k => judge_safe (D := D) k)
  have HV2 := Lib.hid (fun k => judge_cyc (D := D) k)
  obtain ⟨vg, hvg⟩ : ∃ vg, judgeG D = vg := ⟨_, rfl⟩
  rw [hvg] at HV1 HV2 ⊢
  clear h hvg
  go_enter Try.func61, Try.ntmps61
  go_wp2_with fail
  refine (HOR.out _ HD0.out).mono ?_
  rintro e w3 ⟨vr, rfl, orr, br⟩
  obtain ⟨Ar, cr, rfl, _⟩ := own_form orr
  obtain ⟨nr, hnr⟩ : ∃ nr, (ranksO D).length = nr := ⟨_, rfl⟩
  have HNR := Lib.hid hnr
  rw [hnr] at orr ⊢
  clear hnr
  have K3 := Lib.hid (K0.out.grown (gb_of_below br none) (by simp))
  have G3 := Lib.hid (gb_trans G0.out (gb_of_below br none))
  have HD3 := Lib.hid ((HD0.out.below br).more br.size)
  have OR := Lib.hid (own_less orr G0.out.size)
  have e0 : w3.cell? ⟨w.heap.size, 0, none⟩ = some (.int .i64 0) := K3.out.cell 0
  have e1 : w3.cell? ⟨w.heap.size, 1, none⟩ = some (.slice none 0 0) := K3.out.cell 1
  have e2 : w3.cell? ⟨w.heap.size, 2, none⟩ = some (.slice none 0 0) := K3.out.cell 2
  have f0 := K3.out.frozen 0
  have f1 := K3.out.frozen 1
  have f2 := K3.out.frozen 2
  clear orr br
  cases hk : canO D with
  | true =>
    have HF := Lib.hid (HV1.out hk)
    clear hk
    go_wp2_with fail
    have hb := box_cells (c := 1) (vr := .slice Ar nr cr) (vc := .slice none 0 0) K3.out
    have r0 := hb.cell 0
    have r1 := hb.cell 1
    have r2 := hb.cell 2
    refine bodyPost_ret (v := .agg #[.int .i64 1, .slice Ar nr cr, .slice none 0 0]) (by simp [results, Try.results61, go_sem, r0, r1, r2]) rfl ⟨_, _, by rw [HF.out], ⟨?_, ?_, apart_none _⟩, box_put K3.out G3.out (Nat.le_refl _)⟩
    · rw [HF.out]; simp only [HNR.out]; exact box_row K3.out OR.out
    · rw [HF.out]; exact World.ownsRow_nil _ _ _ _
  | false =>
    have HF := Lib.hid (HV2.out hk)
    clear hk e0 e1 e2 f0 f1 f2
    go_wp2_with fail
    refine (HSC.out _ HD3.out).mono ?_
    rintro e w4 ⟨vc, rfl, oc, bc⟩
    obtain ⟨Ac, cc, rfl, _⟩ := own_form oc
    obtain ⟨nc, hnc⟩ : ∃ nc, (cycG D).length = nc := ⟨_, rfl⟩
    have HNC := Lib.hid hnc
    rw [hnc] at oc ⊢
    clear hnc
    have K4 := Lib.hid (K3.out.grown (gb_of_below bc none) (by simp))
    have G4 := Lib.hid (gb_trans G3.out (gb_of_below bc none))
    have OC := Lib.hid (own_less oc G3.out.size)
    have e0 : w4.cell? ⟨w.heap.size, 0, none⟩ = some (.int .i64 0) := K4.out.cell 0
    have e1 : w4.cell? ⟨w.heap.size, 1, none⟩ = some (.slice none 0 0) := K4.out.cell 1
    have e2 : w4.cell? ⟨w.heap.size, 2, none⟩ = some (.slice none 0 0) := K4.out.cell 2
    have f0 := K4.out.frozen 0
    have f1 := K4.out.frozen 1
    have f2 := K4.out.frozen 2
    clear oc bc
    go_wp2_with fail
    have hb := box_cells (c := 2) (vr := .slice none 0 0) (vc := .slice Ac nc cc) K4.out
    have r0 := hb.cell 0
    have r1 := hb.cell 1
    have r2 := hb.cell 2
    refine bodyPost_ret (v := .agg #[.int .i64 2, .slice none 0 0, .slice Ac nc cc]) (by simp [results, Try.results61, go_sem, r0, r1, r2]) rfl ⟨_, _, by rw [HF.out], ⟨?_, ?_, none_apart _⟩, box_put K4.out G4.out (Nat.le_refl _)⟩
    · rw [HF.out]; exact World.ownsRow_nil _ _ _ _
    · rw [HF.out]; simp only [HNC.out]; exact box_row K4.out OC.out
end Go.Proofs.Ytcmlnokfjbglaaa
end

section
namespace Go.Proofs.Ytcmlnokfjbglaaa
open Go.ChangeShapes Go.WideShapes Go.ChangeAt Go.RowKit
set_option linter.unusedVariables false
set_option maxRecDepth 20000

/-- The verdict on valid tables is that on their dependencies. -/
theorem verdC_judge {W H : Int} {L P Q : List Int} (h : clsOk W H L P Q = true) : judgeG (clsD W H L P Q) = verdC W H L P Q := by
  cases hk : canO (clsD W H L P Q) with
  | true => rw [judge_safe hk, verdC_safe h hk]
  | false => rw [judge_cyc hk, verdC_cyc h hk]
set_option maxHeartbeats 1600000 in
theorem implCheckClasses (W H : Int) (A AP AQ : Option Addr) (n cap nP cP nQ cQ : Nat) (L P Q : List Int) (hL : WfL L) (w : World) (h : IntAt w w.heap.size A n L) (hP : IntAt w w.heap.size AP nP P) (hQ : IntAt w w.heap.size AQ nQ Q) (hn : n ≤ 1000000000) (hnP : nP ≤ 1000000000) (hnQ : nQ ≤ 1000000000) :
    Calls Try.prog 21 #[.agg #[.int .i64 W, .int .i64 H, .slice A n cap], .agg #[.slice AP nP cP, .slice AQ nQ cQ]] w (NewV (verdC W H L P Q) w) := by
  have x0 := clAt_start (W := W) (H := H) (A := A) (AP := AP) (AQ := AQ) (n := n) (cap := cap) (nP := nP) (cP := cP) (nQ := nQ) (cQ := cQ) (w := w)
  have X0 := Lib.hid (x0.gb (gb_alloc (gb_refl _ none) (.cells #[.int .i64 0, .slice none 0 0, .slice none 0 0] 48)))
  have k0 := Blk.new (clB W H A AP AQ n cap nP cP nQ cQ w) 48 #[.int .i64 0, .slice none 0 0, .slice none 0 0]
  rw [show (clB W H A AP AQ n cap nP cP nQ cQ w).heap.size = w.heap.size + 2 by unfold clB; rw [alloc_size, alloc_size]] at k0
  have K0 := Lib.hid k0
  have HI := Lib.hid h
  have HP := Lib.hid hP
  have HQ := Lib.hid hQ
  cases hc : clsOk W H L P Q with
  | false =>
    have HA := Lib.hid (implClassesOkV W H A AP AQ n cap nP cP nQ cQ L P Q hL false hc _ (X0.out.at h) (X0.out.at hP) (X0.out.at hQ) hn hnP hnQ)
    have HF := Lib.hid (verdC_bad hc)
    clear h hP hQ hc x0 k0 hL
    go_enter Try.func21, Try.ntmps21
    go_wp2_with fail
    refine HA.out.mono ?_
    rintro e w1 ⟨rfl, hg⟩
    have X1 := Lib.hid (X0.out.gb hg)
    have K1 := Lib.hid (K0.out.grown hg (by simp))
    have e0 : w1.cell? ⟨w.heap.size + 2, 0, none⟩ = some (.int .i64 0) := K1.out.cell 0
    have e1 : w1.cell? ⟨w.heap.size + 2, 1, none⟩ = some (.slice none 0 0) := K1.out.cell 1
    have e2 : w1.cell? ⟨w.heap.size + 2, 2, none⟩ = some (.slice none 0 0) := K1.out.cell 2
    have f0 := K1.out.frozen 0
    have f1 := K1.out.frozen 1
    have f2 := K1.out.frozen 2
    clear hg
    go_wp2_with fail
    have hb := box_cells (c := 0) (vr := .slice none 0 0) (vc := .slice none 0 0) K1.out
    have r0 := hb.cell 0
    have r1 := hb.cell 1
    have r2 := hb.cell 2
    refine bodyPost_ret (v := .agg #[.int .i64 0, .slice none 0 0, .slice none 0 0]) (by simp [results, Try.results21, go_sem, r0, r1, r2]) rfl ⟨_, _, by rw [HF.out], ⟨?_, ?_, none_apart _⟩, box_put K1.out X1.out.g (by omega)⟩
    · rw [HF.out]; exact World.ownsRow_nil _ _ _ _
    · rw [HF.out]; exact World.ownsRow_nil _ _ _ _
  | true =>
    have HA := Lib.hid (implClassesOkV W H A AP AQ n cap nP cP nQ cQ L P Q hL true hc _ (X0.out.at h) (X0.out.at hP) (X0.out.at hQ) hn hnP hnQ)
    have HDP := Lib.hid (fun w h hP hQ => implClassDepends W H A AP AQ n cap nP cP nQ cQ L P Q hL w h hP hQ hn hnP hnQ)
    have HDL := Lib.hid (clsD_len (W := W) (H := H) (L := L) (P := P) (Q := Q))
    have HV := Lib.hid (verdC_judge (W := W) (H := H) (L := L) (P := P) (Q := Q) hc)
    obtain ⟨D, hD⟩ : ∃ D, clsD W H L P Q = D := ⟨_, rfl⟩
    rw [hD] at HDP HDL HV
    have HJ := Lib.hid (fun A n cap w h hn => implJudge A n cap D w h hn)
    obtain ⟨vg, hvg⟩ : ∃ vg, verdC W H L P Q = vg := ⟨_, rfl⟩
    rw [hvg] at HV ⊢
    rw [HV.out] at HJ
    clear h hP hQ hc hD hvg x0 k0 hL
    go_enter Try.func21, Try.ntmps21
    go_wp2_with fail
    refine HA.out.mono ?_
    rintro e w1 ⟨rfl, hg⟩
    have X1 := Lib.hid (X0.out.gb hg)
    have K1 := Lib.hid (K0.out.grown hg (by simp))
    have m0 : w1.cell? ⟨w.heap.size, 0, none⟩ = some (.int .i64 W) := X1.out.m.cell 0
    have m1 : w1.cell? ⟨w.heap.size, 1, none⟩ = some (.int .i64 H) := X1.out.m.cell 1
    have m2 : w1.cell? ⟨w.heap.size, 2, none⟩ = some (.slice A n cap) := X1.out.m.cell 2
    have m3 : w1.cell? ⟨w.heap.size + 1, 0, none⟩ = some (.slice AP nP cP) := X1.out.t.cell 0
    have m4 : w1.cell? ⟨w.heap.size + 1, 1, none⟩ = some (.slice AQ nQ cQ) := X1.out.t.cell 1
    clear hg
    go_wp2_with fail
    refine (HDP.out _ (X1.out.at HI.out) (X1.out.at HP.out) (X1.out.at HQ.out)).mono ?_
    rintro e w2 ⟨vd, rfl, od, bd⟩
    have X2 := Lib.hid (X1.out.bl bd)
    have K2 := Lib.hid (K1.out.grown (gb_of_below bd none) (by simp))
    obtain ⟨Ad, cd, rfl, _⟩ := own_form od
    obtain ⟨nd, hnd⟩ : ∃ nd, D.length = nd := ⟨_, rfl⟩
    rw [hnd] at od HDL
    have HDA := Lib.hid (depAt_own (B := w2.heap.size) od (Nat.le_refl _))
    rw [hnd]
    clear od bd hnd m0 m1 m2 m3 m4
    go_wp2_with fail
    refine (HJ.out Ad nd cd _ HDA.out (by have := HDL.out; omega)).mono ?_
    rintro e w3 ⟨vr, vc, rfl, hv, bv⟩
    obtain ⟨z, R, C⟩ := vg
    simp only at hv
    have X3 := Lib.hid (X2.out.bl bv)
    have K3 := Lib.hid (K2.out.grown (gb_of_below bv none) (by simp))
    have V3 := Lib.hid (hv.less X2.out.g.size)
    obtain ⟨Ar, cr, rfl, _⟩ := own_form hv.r
    obtain ⟨Ac, cc, rfl, _⟩ := own_form hv.c
    have e0 : w3.cell? ⟨w.heap.size + 2, 0, none⟩ = some (.int .i64 0) := K3.out.cell 0
    have e1 : w3.cell? ⟨w.heap.size + 2, 1, none⟩ = some (.slice none 0 0) := K3.out.cell 1
    have e2 : w3.cell? ⟨w.heap.size + 2, 2, none⟩ = some (.slice none 0 0) := K3.out.cell 2
    have f0 := K3.out.frozen 0
    have f1 := K3.out.frozen 1
    have f2 := K3.out.frozen 2
    clear hv bv
    go_wp2_with fail
    have hb := box_cells (c := z) (vr := .slice Ar R.length cr) (vc := .slice Ac C.length cc) K3.out
    have r0 := hb.cell 0
    have r1 := hb.cell 1
    have r2 := hb.cell 2
    refine bodyPost_ret (v := .agg #[.int .i64 z, .slice Ar R.length cr, .slice Ac C.length cc]) (by simp [results, Try.results21, go_sem, r0, r1, r2]) rfl ⟨_, _, rfl, ⟨?_, ?_, V3.out.ap⟩, box_put K3.out X3.out.g (by omega)⟩
    · exact box_row K3.out V3.out.r
    · exact box_row K3.out V3.out.c
end Go.Proofs.Ytcmlnokfjbglaaa
end

section
namespace Go.Proofs.Ytcmlnokfjbglaaa
open Go.ChangeShapes Go.WideShapes Go.ChangeAt Go.RowKit
set_option linter.unusedVariables false
set_option maxRecDepth 20000

set_option maxHeartbeats 6400000 in
theorem walk_FnExactCheckClasses (S0a : Int) (S0b : Int) (A0a : Option Addr) (n0a c0a : Nat) (L0a : List Int) (A1a : Option Addr) (n1a c1a : Nat) (L1a : List Int) (A1b : Option Addr) (n1b c1b : Nat) (L1b : List Int) (w : World) (hwS0a : (Lit.int .i64 S0a).wf = true) (hwS0b : (Lit.int .i64 S0b).wf = true) (hncA0a : n0a ≤ c0a) (hcmA0a : c0a ≤ maxLen) (hA0a : IntAt w w.heap.size A0a n0a L0a) (hlA0a : ∀ x ∈ L0a, (Lit.int .i64 x).wf = true) (hncA1a : n1a ≤ c1a) (hcmA1a : c1a ≤ maxLen) (hA1a : IntAt w w.heap.size A1a n1a L1a) (hlA1a : ∀ x ∈ L1a, (Lit.int .i64 x).wf = true) (hncA1b : n1b ≤ c1b) (hcmA1b : c1b ≤ maxLen) (hA1b : IntAt w w.heap.size A1b n1b L1b) (hlA1b : ∀ x ∈ L1b, (Lit.int .i64 x).wf = true) :
    Calls Try.prog 9 #[.agg #[.int .i64 S0a, .int .i64 S0b, .slice A0a n0a c0a], .agg #[.slice A1a n1a c1a, .slice A1b n1b c1b]] w fun e w' => e = .returned (.bool true) ∧ Below w.heap.size w w' := by
  have h9A0a : n0a ≤ 9223372036854775807 := Nat.le_trans hncA0a (Nat.le_trans hcmA0a (by decide))
  have hLA0a := hA0a.1
  have HA0a := Lib.hid (hA0a)
  have HWF0 := Lib.hid (show WfL L0a from hlA0a)
  have HWS0a := Lib.hid (hwS0a)
  have HWS0b := Lib.hid (hwS0b)
  have h9A1a : n1a ≤ 9223372036854775807 := Nat.le_trans hncA1a (Nat.le_trans hcmA1a (by decide))
  have hLA1a := hA1a.1
  have HA1a := Lib.hid (hA1a)
  have HWXA1a := Lib.hid (hlA1a)
  have h9A1b : n1b ≤ 9223372036854775807 := Nat.le_trans hncA1b (Nat.le_trans hcmA1b (by decide))
  have hLA1b := hA1b.1
  have HA1b := Lib.hid (hA1b)
  have HWXA1b := Lib.hid (hlA1b)
  clear hncA0a hcmA0a hA0a hlA0a hwS0a hwS0b hncA1a hcmA1a hA1a hlA1a hncA1b hcmA1b hA1b hlA1b
  subst hLA0a
  subst hLA1a
  subst hLA1b
  by_cases hbig0 : (1048576 : Int) < (L0a.length : Int)
  · skip
    go_enter Try.func9, Try.ntmps9
    go_wp2_with fail
    have ke0 := (Blk.new w 58 #[.int .i64 S0a, .int .i64 S0b, .slice A0a L0a.length c0a]).alloc (.cells #[.slice A1a L1a.length c1a, .slice A1b L1b.length c1b] 61)
    have ke1 := Blk.new (w.alloc (.cells #[.int .i64 S0a, .int .i64 S0b, .slice A0a L0a.length c0a] 58)) 61 #[.slice A1a L1a.length c1a, .slice A1b L1b.length c1b]
    have ge := gb_alloc (gb_alloc (gb_refl w none) (.cells #[.int .i64 S0a, .int .i64 S0b, .slice A0a L0a.length c0a] 58)) (.cells #[.slice A1a L1a.length c1a, .slice A1b L1b.length c1b] 61)
    simp only [alloc_size] at ke1
    generalize ((w.alloc (.cells #[.int .i64 S0a, .int .i64 S0b, .slice A0a L0a.length c0a] 58)).alloc (.cells #[.slice A1a L1a.length c1a, .slice A1b L1b.length c1b] 61)) = we at *
    have KE0 : Hid (Blk we (w.heap.size) 58 #[.int .i64 S0a, .int .i64 S0b, .slice A0a L0a.length c0a]) := Lib.hid (ke0)
    have KE1 : Hid (Blk we (w.heap.size + 1) 61 #[.slice A1a L1a.length c1a, .slice A1b L1b.length c1b]) := Lib.hid (ke1)
    have GE := Lib.hid (ge)
    have RZ0 := Lib.hid (Chg.refl 0 0 we)
    clear ge ke0 ke1
    have a0_0 : we.cell? ⟨w.heap.size, 0, none⟩ = some (.int .i64 S0a) := (KE0.out.nx (RZ0.out)).cell 0
    have a0_1 : we.cell? ⟨w.heap.size, 1, none⟩ = some (.int .i64 S0b) := (KE0.out.nx (RZ0.out)).cell 1
    have a0_2 : we.cell? ⟨w.heap.size, 2, none⟩ = some (.slice A0a L0a.length c0a) := (KE0.out.nx (RZ0.out)).cell 2
    refine (lawsSzMesh _ _ _ _ _ _ _ h9A0a (by omega) (by omega)).mono ?_
    rintro e wz1 ⟨rfl, hg⟩
    rw [if_pos hbig0]
    have RZ1 := Lib.hid (RZ0.out.gb hg)
    clear hg a0_0 a0_1 a0_2
    go_wp2_with fail
    go_ret
    exact ⟨rfl, (gb_below_none GE.out (Nat.le_refl _)).trans (RZ1.out.below (.inr (Nat.le_refl _)) GE.out.size)⟩
  have hnA0a : L0a.length ≤ 1048576 := by omega
  obtain ⟨q1, hq1⟩ : ∃ q : Int, (1048576 : Int) - (L0a.length : Int) = q := ⟨_, rfl⟩
  have hqa1 : ¬ q1 < 0 := by omega
  have hqb1 : q1 ≤ 1048576 := by omega
  by_cases hbig1 : q1 < (L1a.length : Int) + (L1b.length : Int)
  · skip
    go_enter Try.func9, Try.ntmps9
    go_wp2_with fail
    have ke0 := (Blk.new w 58 #[.int .i64 S0a, .int .i64 S0b, .slice A0a L0a.length c0a]).alloc (.cells #[.slice A1a L1a.length c1a, .slice A1b L1b.length c1b] 61)
    have ke1 := Blk.new (w.alloc (.cells #[.int .i64 S0a, .int .i64 S0b, .slice A0a L0a.length c0a] 58)) 61 #[.slice A1a L1a.length c1a, .slice A1b L1b.length c1b]
    have ge := gb_alloc (gb_alloc (gb_refl w none) (.cells #[.int .i64 S0a, .int .i64 S0b, .slice A0a L0a.length c0a] 58)) (.cells #[.slice A1a L1a.length c1a, .slice A1b L1b.length c1b] 61)
    simp only [alloc_size] at ke1
    generalize ((w.alloc (.cells #[.int .i64 S0a, .int .i64 S0b, .slice A0a L0a.length c0a] 58)).alloc (.cells #[.slice A1a L1a.length c1a, .slice A1b L1b.length c1b] 61)) = we at *
    have KE0 : Hid (Blk we (w.heap.size) 58 #[.int .i64 S0a, .int .i64 S0b, .slice A0a L0a.length c0a]) := Lib.hid (ke0)
    have KE1 : Hid (Blk we (w.heap.size + 1) 61 #[.slice A1a L1a.length c1a, .slice A1b L1b.length c1b]) := Lib.hid (ke1)
    have GE := Lib.hid (ge)
    have RZ0 := Lib.hid (Chg.refl 0 0 we)
    clear ge ke0 ke1
    have a0_0 : we.cell? ⟨w.heap.size, 0, none⟩ = some (.int .i64 S0a) := (KE0.out.nx (RZ0.out)).cell 0
    have a0_1 : we.cell? ⟨w.heap.size, 1, none⟩ = some (.int .i64 S0b) := (KE0.out.nx (RZ0.out)).cell 1
    have a0_2 : we.cell? ⟨w.heap.size, 2, none⟩ = some (.slice A0a L0a.length c0a) := (KE0.out.nx (RZ0.out)).cell 2
    refine (lawsSzMesh _ _ _ _ _ _ _ h9A0a (by omega) (by omega)).mono ?_
    rintro e wz1 ⟨rfl, hg⟩
    rw [if_neg (by omega), hq1]
    have RZ1 := Lib.hid (RZ0.out.gb hg)
    clear hg a0_0 a0_1 a0_2 hq1
    have a1_0 : wz1.cell? ⟨w.heap.size + 1, 0, none⟩ = some (.slice A1a L1a.length c1a) := (KE1.out.nx (RZ1.out)).cell 0
    have a1_1 : wz1.cell? ⟨w.heap.size + 1, 1, none⟩ = some (.slice A1b L1b.length c1b) := (KE1.out.nx (RZ1.out)).cell 1
    go_wp2_with fail
    refine (lawsSzClasses _ _ _ _ _ _ _ _ h9A1a h9A1b (by omega) (by omega)).mono ?_
    rintro e wz2 ⟨rfl, hg⟩
    rw [if_pos hbig1]
    have RZ2 := Lib.hid (RZ1.out.gb hg)
    clear hg a1_0 a1_1
    go_wp2_with fail
    go_ret
    exact ⟨rfl, (gb_below_none GE.out (Nat.le_refl _)).trans (RZ2.out.below (.inr (Nat.le_refl _)) GE.out.size)⟩
  have hnA1a : L1a.length ≤ 1048576 := by omega
  have hnA1b : L1b.length ≤ 1048576 := by omega
  obtain ⟨q2, hq2⟩ : ∃ q : Int, q1 - (L1a.length : Int) - (L1b.length : Int) = q := ⟨_, rfl⟩
  have hqa2 : ¬ q2 < 0 := by omega
  have hqb2 : q2 ≤ 1048576 := by omega
  go_enter Try.func9, Try.ntmps9
  go_wp2_with fail
  have ke0 := (Blk.new w 58 #[.int .i64 S0a, .int .i64 S0b, .slice A0a L0a.length c0a]).alloc (.cells #[.slice A1a L1a.length c1a, .slice A1b L1b.length c1b] 61)
  have ke1 := Blk.new (w.alloc (.cells #[.int .i64 S0a, .int .i64 S0b, .slice A0a L0a.length c0a] 58)) 61 #[.slice A1a L1a.length c1a, .slice A1b L1b.length c1b]
  have ge := gb_alloc (gb_alloc (gb_refl w none) (.cells #[.int .i64 S0a, .int .i64 S0b, .slice A0a L0a.length c0a] 58)) (.cells #[.slice A1a L1a.length c1a, .slice A1b L1b.length c1b] 61)
  simp only [alloc_size] at ke1
  generalize ((w.alloc (.cells #[.int .i64 S0a, .int .i64 S0b, .slice A0a L0a.length c0a] 58)).alloc (.cells #[.slice A1a L1a.length c1a, .slice A1b L1b.length c1b] 61)) = we at *
  have KE0 : Hid (Blk we (w.heap.size) 58 #[.int .i64 S0a, .int .i64 S0b, .slice A0a L0a.length c0a]) := Lib.hid (ke0)
  have KE1 : Hid (Blk we (w.heap.size + 1) 61 #[.slice A1a L1a.length c1a, .slice A1b L1b.length c1b]) := Lib.hid (ke1)
  have GE := Lib.hid (ge)
  have RZ0 := Lib.hid (Chg.refl 0 0 we)
  clear ge ke0 ke1
  have a0_0 : we.cell? ⟨w.heap.size, 0, none⟩ = some (.int .i64 S0a) := (KE0.out.nx (RZ0.out)).cell 0
  have a0_1 : we.cell? ⟨w.heap.size, 1, none⟩ = some (.int .i64 S0b) := (KE0.out.nx (RZ0.out)).cell 1
  have a0_2 : we.cell? ⟨w.heap.size, 2, none⟩ = some (.slice A0a L0a.length c0a) := (KE0.out.nx (RZ0.out)).cell 2
  refine (lawsSzMesh _ _ _ _ _ _ _ h9A0a (by omega) (by omega)).mono ?_
  rintro e wz1 ⟨rfl, hg⟩
  rw [if_neg (by omega), hq1]
  have RZ1 := Lib.hid (RZ0.out.gb hg)
  clear hg a0_0 a0_1 a0_2 hq1
  have a1_0 : wz1.cell? ⟨w.heap.size + 1, 0, none⟩ = some (.slice A1a L1a.length c1a) := (KE1.out.nx (RZ1.out)).cell 0
  have a1_1 : wz1.cell? ⟨w.heap.size + 1, 1, none⟩ = some (.slice A1b L1b.length c1b) := (KE1.out.nx (RZ1.out)).cell 1
  go_wp2_with fail
  refine (lawsSzClasses _ _ _ _ _ _ _ _ h9A1a h9A1b (by omega) (by omega)).mono ?_
  rintro e wz2 ⟨rfl, hg⟩
  rw [if_neg (by omega), hq2]
  have RZ2 := Lib.hid (RZ1.out.gb hg)
  clear hg a1_0 a1_1 hq2
  go_wp2_with fail
  clear hqa1 hqb1 hbig0 hqa2 hqb2 hbig1
  obtain ⟨res, hres⟩ : ∃ r, verdC S0a S0b L0a L1a L1b = r := ⟨_, rfl⟩
  have hrl : res.ranks.length ≤ 128 ∧ res.cycle.length ≤ 128 := by rw [← hres]; exact verdC_len
  obtain ⟨z, R, C⟩ := res
  simp only at hrl
  obtain ⟨hRl, hCl⟩ := hrl
  have HSP := Lib.hid (fun (A0a : Option Addr) (n0a c0a : Nat) (A1a : Option Addr) (n1a c1a : Nat) (A1b : Option Addr) (n1b c1b : Nat) (w : World) (hA0a : IntAt w w.heap.size A0a n0a L0a) (hA1a : IntAt w w.heap.size A1a n1a L1a) (hA1b : IntAt w w.heap.size A1b n1b L1b) (hnA0a : n0a ≤ 1000000000) (hnA1a : n1a ≤ 1000000000) (hnA1b : n1b ≤ 1000000000) (hcA0a : n0a ≤ c0a) (hcA1a : n1a ≤ c1a) (hcA1b : n1b ≤ c1b) => show Calls Try.prog 44 #[.agg #[.int .i64 S0a, .int .i64 S0b, .slice A0a n0a c0a], .agg #[.slice A1a n1a c1a, .slice A1b n1b c1b]] w (NewV ⟨z, R, C⟩ w) from hres ▸ specCheckClasses S0a S0b A0a A1a A1b n0a c0a n1a c1a n1b c1b L0a L1a L1b w hA0a hA1a hA1b hnA0a hnA1a hnA1b)
  have HIM := Lib.hid (fun (A0a : Option Addr) (n0a c0a : Nat) (A1a : Option Addr) (n1a c1a : Nat) (A1b : Option Addr) (n1b c1b : Nat) (w : World) (hA0a : IntAt w w.heap.size A0a n0a L0a) (hA1a : IntAt w w.heap.size A1a n1a L1a) (hA1b : IntAt w w.heap.size A1b n1b L1b) (hnA0a : n0a ≤ 1000000000) (hnA1a : n1a ≤ 1000000000) (hnA1b : n1b ≤ 1000000000) (hcA0a : n0a ≤ c0a) (hcA1a : n1a ≤ c1a) (hcA1b : n1b ≤ c1b) => show Calls Try.prog 21 #[.agg #[.int .i64 S0a, .int .i64 S0b, .slice A0a n0a c0a], .agg #[.slice A1a n1a c1a, .slice A1b n1b c1b]] w (NewV ⟨z, R, C⟩ w) from hres ▸ implCheckClasses S0a S0b A0a A1a A1b n0a c0a n1a c1a n1b c1b L0a L1a L1b HWF0.out w hA0a hA1a hA1b hnA0a hnA1a hnA1b)
  clear hres
  have BE := Lib.hid (gb_below_none GE.out (Nat.le_refl _))
  have RDA0a := Lib.hid (fun (w' : World) (hq : Chg 0 0 we w') => HA0a.out.chg BE.out hq (.inr (Nat.le_refl _)))
  have RDA1a := Lib.hid (fun (w' : World) (hq : Chg 0 0 we w') => HA1a.out.chg BE.out hq (.inr (Nat.le_refl _)))
  have RDA1b := Lib.hid (fun (w' : World) (hq : Chg 0 0 we w') => HA1b.out.chg BE.out hq (.inr (Nat.le_refl _)))
  have KPw := Lib.hid (fun (w' : World) (hq : Chg 0 0 we w') => (show w'.cell? ⟨w.heap.size, 0, none⟩ = some (.int .i64 S0a) ∧ w'.cell? ⟨w.heap.size, 1, none⟩ = some (.int .i64 S0b) ∧ w'.cell? ⟨w.heap.size, 2, none⟩ = some (.slice A0a L0a.length c0a) ∧ w'.cell? ⟨w.heap.size + 1, 0, none⟩ = some (.slice A1a L1a.length c1a) ∧ w'.cell? ⟨w.heap.size + 1, 1, none⟩ = some (.slice A1b L1b.length c1b) from ⟨(KE0.out.nx hq).cell 0, (KE0.out.nx hq).cell 1, (KE0.out.nx hq).cell 2, (KE1.out.nx hq).cell 0, (KE1.out.nx hq).cell 1⟩))
  go_cut [6] from 14 (fun s6 wcw => ∃ (bww Bw Ew : Nat) (Arwv : Option Addr) (crwv : Nat) (Acwv : Option Addr) (ccwv : Nat), s6 = .pointer (some ⟨bww, 0, none⟩) ∧ Chg 0 0 we wcw ∧ Blk wcw bww 48 #[.int .i64 z, .slice Arwv R.length crwv, .slice Acwv C.length ccwv] ∧ Fix Bw Ew (fun w => VRow w Bw (.slice Arwv R.length crwv) (.slice Acwv C.length ccwv) R.length C.length R C) wcw ∧ (we.heap.size ≤ Bw ∧ Bw ≤ Ew ∧ (bww < Bw ∨ Ew ≤ bww)) ∧ (∀ k, (Value.ownBlock (.slice Arwv R.length crwv) = some k ∨ Value.ownBlock (.slice Acwv C.length ccwv) = some k) → Bw ≤ k ∧ k < Ew))
  case first =>
    go_region_held3 (fun w' => w'.cell? ⟨w.heap.size, 0, none⟩ = some (.int .i64 S0a) ∧ w'.cell? ⟨w.heap.size, 1, none⟩ = some (.int .i64 S0b) ∧ w'.cell? ⟨w.heap.size, 2, none⟩ = some (.slice A0a L0a.length c0a) ∧ w'.cell? ⟨w.heap.size + 1, 0, none⟩ = some (.slice A1a L1a.length c1a) ∧ w'.cell? ⟨w.heap.size + 1, 1, none⟩ = some (.slice A1b L1b.length c1b))
      (first | with_reducible exact KPw.out _ (RZ2.out) | with_reducible exact KPw.out _ (RZ2.out.dr) | with_reducible exact KPw.out _ ((RZ2.out.al (.cells #[.int .i64 0, .slice none 0 0, .slice none 0 0] 48))) | with_reducible exact KPw.out _ ((RZ2.out.al (.cells #[.int .i64 0, .slice none 0 0, .slice none 0 0] 48)).dr) | with_reducible exact KPw.out _ ((RZ2.out.dr.al (.cells #[.int .i64 0, .slice none 0 0, .slice none 0 0] 48))) | with_reducible exact KPw.out _ (R1.out) | with_reducible exact KPw.out _ ((R1.out.al (.cells #[.int .i64 0, .slice none 0 0, .slice none 0 0] 48))) | with_reducible exact KPw.out _ (R2.out) | with_reducible exact KPw.out _ ((R2.out.al (.cells #[.int .i64 0, .slice none 0 0, .slice none 0 0] 48))) | with_reducible exact KPw.out _ (R3.out) | with_reducible exact KPw.out _ ((R3.out.al _)) | with_reducible exact KPw.out _ ((R3.out.sb RZ2.out.size 0 _)) | with_reducible exact KPw.out _ (((R3.out.sb RZ2.out.size 0 _).sb RZ2.out.size 1 _)) | with_reducible exact KPw.out _ ((((R3.out.sb RZ2.out.size 0 _).sb RZ2.out.size 1 _).sb RZ2.out.size 2 _)) | with_reducible exact KPw.out _ ((R3.out.sb R1.out.size 0 _)) | with_reducible exact KPw.out _ (((R3.out.sb R1.out.size 0 _).sb R1.out.size 1 _)) | with_reducible exact KPw.out _ ((((R3.out.sb R1.out.size 0 _).sb R1.out.size 1 _).sb R1.out.size 2 _)) | with_reducible exact KPw.out _ ((R3.out.sb R2.out.size 0 _)) | with_reducible exact KPw.out _ (((R3.out.sb R2.out.size 0 _).sb R2.out.size 1 _)) | with_reducible exact KPw.out _ ((((R3.out.sb R2.out.size 0 _).sb R2.out.size 1 _).sb R2.out.size 2 _)) | fail)
      (first
        | (go_at_call 31; (first | (with_reducible refine (lawsToMesh _ _ _ _ _ _ _ (RDA0a.out _ (RZ2.out.dr)) hnA0a).mono ?_) | (with_reducible refine (lawsToMesh _ _ _ _ _ _ _ (RDA0a.out _ ((RZ2.out.al (.cells #[.int .i64 0, .slice none 0 0, .slice none 0 0] 48)).dr)) hnA0a).mono ?_) | (with_reducible refine (lawsToMesh _ _ _ _ _ _ _ (RDA0a.out _ (RZ2.out.dr.al (.cells #[.int .i64 0, .slice none 0 0, .slice none 0 0] 48))) hnA0a).mono ?_) | fail); rintro e w1 ⟨gw0, rfl, ow0, bw0⟩; have R1 : Hid (Chg 0 0 we w1) := Lib.hid (by first | exact (RZ2.out.dr).bl bw0 | exact ((RZ2.out.al (.cells #[.int .i64 0, .slice none 0 0, .slice none 0 0] 48)).dr).bl bw0 | exact (RZ2.out.dr.al (.cells #[.int .i64 0, .slice none 0 0, .slice none 0 0] 48)).bl bw0 | fail); have Q1 := Lib.hid (chg_gb 0 0 (gb_of_below bw0 none)); have F1 := Lib.hid (fix_row ow0); (try (first | have ZZ1 := Lib.hid ((Blk.new _ 48 #[.int .i64 0, .slice none 0 0, .slice none 0 0]).nx ((chg_drew _).trans Q1.out)) | have ZZ1 := Lib.hid ((Blk.new _ 48 #[.int .i64 0, .slice none 0 0, .slice none 0 0]).nx Q1.out) | fail)); clear bw0 ow0)
        | (go_at_call 32; (first | (with_reducible refine (lawsToClasses _ _ _ _ _ _ _ _ _ (RDA1a.out _ (R1.out)) (RDA1b.out _ (R1.out)) hnA1a hnA1b).mono ?_) | (with_reducible refine (lawsToClasses _ _ _ _ _ _ _ _ _ (RDA1a.out _ ((R1.out.al (.cells #[.int .i64 0, .slice none 0 0, .slice none 0 0] 48)))) (RDA1b.out _ ((R1.out.al (.cells #[.int .i64 0, .slice none 0 0, .slice none 0 0] 48)))) hnA1a hnA1b).mono ?_) | fail); rintro e w2 ⟨pw1, qw1, rfl, ow1, bw1⟩; obtain ⟨Arw1, crw1, rfl, _⟩ := own_form ow1.r; obtain ⟨Acw1, ccw1, rfl, _⟩ := own_form ow1.c; have R2 : Hid (Chg 0 0 we w2) := Lib.hid (by first | exact (R1.out).bl bw1 | exact ((R1.out.al (.cells #[.int .i64 0, .slice none 0 0, .slice none 0 0] 48))).bl bw1 | fail); have Q2 := Lib.hid (chg_gb 0 0 (gb_of_below bw1 none)); have F2 := Lib.hid (fix_vrow ow1); (try (first | have ZZ2 := Lib.hid (ZZ1.out.nx Q2.out) | have ZZ2 := Lib.hid ((Blk.new w1 48 #[.int .i64 0, .slice none 0 0, .slice none 0 0]).nx Q2.out) | fail)); clear bw1 ow1)
        | (go_at_call 44; (first | (with_reducible refine (HSP.out _ _ _ _ _ _ _ _ _ _ (intAt_own ((F1.out.nx Q2.out).here) rfl (Nat.le_refl _)) (intAt_own (F2.out.here.r) rfl (Nat.le_refl _)) (intAt_own (F2.out.here.c) rfl (Nat.le_refl _)) (by omega) (by omega) (by omega) (own_cap ((F1.out.nx Q2.out).here)).1 (own_cap (F2.out.here.r)).1 (own_cap (F2.out.here.c)).1).mono ?_) | (with_reducible refine (HSP.out _ _ _ _ _ _ _ _ _ _ (intAt_own (((F1.out.al (.cells #[.int .i64 0, .slice none 0 0, .slice none 0 0] 48)).nx Q2.out).here) rfl (Nat.le_refl _)) (intAt_own (F2.out.here.r) rfl (Nat.le_refl _)) (intAt_own (F2.out.here.c) rfl (Nat.le_refl _)) (by omega) (by omega) (by omega) (own_cap (((F1.out.al (.cells #[.int .i64 0, .slice none 0 0, .slice none 0 0] 48)).nx Q2.out).here)).1 (own_cap (F2.out.here.r)).1 (own_cap (F2.out.here.c)).1).mono ?_) | (with_reducible refine (HSP.out _ _ _ _ _ _ _ _ _ _ (intAt_own (((F1.out.nx Q2.out).al (.cells #[.int .i64 0, .slice none 0 0, .slice none 0 0] 48)).here) rfl (Nat.le_refl _)) (intAt_own ((F2.out.al (.cells #[.int .i64 0, .slice none 0 0, .slice none 0 0] 48)).here.r) rfl (Nat.le_refl _)) (intAt_own ((F2.out.al (.cells #[.int .i64 0, .slice none 0 0, .slice none 0 0] 48)).here.c) rfl (Nat.le_refl _)) (by omega) (by omega) (by omega) (own_cap (((F1.out.nx Q2.out).al (.cells #[.int .i64 0, .slice none 0 0, .slice none 0 0] 48)).here)).1 (own_cap ((F2.out.al (.cells #[.int .i64 0, .slice none 0 0, .slice none 0 0] 48)).here.r)).1 (own_cap ((F2.out.al (.cells #[.int .i64 0, .slice none 0 0, .slice none 0 0] 48)).here.c)).1).mono ?_) | fail); rintro e w3 ⟨pw, qw, rfl, ow, bw⟩; obtain ⟨Arw, crw, rfl, _⟩ := own_form ow.r; obtain ⟨Acw, ccw, rfl, _⟩ := own_form ow.c; have R3 : Hid (Chg 0 0 we w3) := Lib.hid (by first | exact (R2.out).bl bw | exact ((R2.out.al (.cells #[.int .i64 0, .slice none 0 0, .slice none 0 0] 48))).bl bw | fail); have Q3 := Lib.hid (chg_gb 0 0 (gb_of_below bw none)); have F3 := Lib.hid (fix_vrow ow); (try ((first | have ZZ3 := Lib.hid (ZZ2.out.nx Q3.out) | have ZZ3 := Lib.hid ((Blk.new w2 48 #[.int .i64 0, .slice none 0 0, .slice none 0 0]).nx Q3.out) | fail); have zcw0 : _ = some ((.int .i64 0) : Value) := ZZ3.out.cell 0; have zfw0 := ZZ3.out.frozen 0; have zcw1 : _ = some ((.slice none 0 0) : Value) := ZZ3.out.cell 1; have zfw1 := ZZ3.out.frozen 1; have zcw2 : _ = some ((.slice none 0 0) : Value) := ZZ3.out.cell 2; have zfw2 := ZZ3.out.frozen 2)); clear bw ow)
        | fail)
    all_goals
      go_wp2_with fail
      go_meet
      case rel => exact ⟨_, _, _, _, _, _, _, rfl, (by first | exact (R3.out.al _) | exact (((R3.out.sb RZ2.out.size 0 _).sb RZ2.out.size 1 _).sb RZ2.out.size 2 _) | exact (((R3.out.sb R1.out.size 0 _).sb R1.out.size 1 _).sb R1.out.size 2 _) | exact (((R3.out.sb R2.out.size 0 _).sb R2.out.size 1 _).sb R2.out.size 2 _) | fail), (by first | exact Blk.new _ _ _ | exact (by have hz := (((ZZ3.out.set_ 0 (.int .i64 z)).set_ 1 (.slice Arw R.length crw)).set_ 2 (.slice Acw C.length ccw)); simpa using hz) | fail), (by first | exact F3.out.al _ | exact F3.out.chg (((st_in _ _ _ _).si _).si _) (.inr (.inl (by (try have hs1 := Q1.out.size); (try have hs2 := Q2.out.size); (try have hs3 := Q3.out.size); simp only [alloc_size, drew_heap] at *; omega))) | fail), (by (try have hs1 := Q1.out.size); (try have hs2 := Q2.out.size); (try have hs3 := Q3.out.size); (try have hs0 := RZ2.out.size); (try simp only [alloc_size, drew_heap] at *); omega), F3.out.here.lt⟩
  case rest =>
    obtain ⟨bww, Bw, Ew, Arwv, crwv, Acwv, ccwv, rfl, hx, hk, hf, hb, hl⟩ := hcut
    obtain ⟨wdw, hwd⟩ : ∃ x, x = wc := ⟨_, rfl⟩
    subst hwd
    have RCw := Lib.hid (hx)
    have KCw := Lib.hid (hk)
    have FCw := Lib.hid (hf)
    have HBw := Lib.hid (hb)
    have HLw := Lib.hid (hl)
    clear hx hk hf hb hl
    have FW := Lib.hid (FCw.out)
    have KW := Lib.hid (KCw.out)
    have HE0 := Lib.hid (FW.out.1)
    have HW0 := Lib.hid (KW.out.lt)
    have HS0 := Lib.hid ((RCw.out).size)
    have a0_0 : wdw.cell? ⟨w.heap.size, 0, none⟩ = some (.int .i64 S0a) := (KE0.out.nx (RCw.out)).cell 0
    have a0_1 : wdw.cell? ⟨w.heap.size, 1, none⟩ = some (.int .i64 S0b) := (KE0.out.nx (RCw.out)).cell 1
    have a0_2 : wdw.cell? ⟨w.heap.size, 2, none⟩ = some (.slice A0a L0a.length c0a) := (KE0.out.nx (RCw.out)).cell 2
    go_wp2_with fail
    refine (lawsToMesh _ _ _ _ _ _ _ (RDA0a.out _ (RCw.out)) hnA0a).mono ?_
    rintro e w4 ⟨gx0, rfl, ox0, bx0⟩
    have HLX0 := Lib.hid ((fix_row ox0).here.lt)
    have FX0 := Lib.hid (fix_row ox0)
    have Q4 := Lib.hid (chg_gb 0 0 (gb_of_below bx0 none))
    have R4 := Lib.hid ((RCw.out).bl bx0)
    clear bx0 ox0 a0_0 a0_1 a0_2
    replace FW := Lib.hid (FW.out.nx Q4.out)
    replace KW := Lib.hid (KW.out.nx Q4.out)
    replace FW := Lib.hid ((FW.out).al (.cells #[.int .i64 S0a, .int .i64 S0b, .slice (some ⟨gx0, 0, none⟩) L0a.length L0a.length] 30))
    replace KW := Lib.hid ((KW.out).alloc (.cells #[.int .i64 S0a, .int .i64 S0b, .slice (some ⟨gx0, 0, none⟩) L0a.length L0a.length] 30))
    replace FX0 := Lib.hid ((FX0.out).al (.cells #[.int .i64 S0a, .int .i64 S0b, .slice (some ⟨gx0, 0, none⟩) L0a.length L0a.length] 30))
    have KX0 := Lib.hid (Blk.new w4 30 #[.int .i64 S0a, .int .i64 S0b, .slice (some ⟨gx0, 0, none⟩) L0a.length L0a.length])
    have a1_0 : (w4.alloc (.cells #[.int .i64 S0a, .int .i64 S0b, .slice (some ⟨gx0, 0, none⟩) L0a.length L0a.length] 30)).cell? ⟨w.heap.size + 1, 0, none⟩ = some (.slice A1a L1a.length c1a) := (KE1.out.nx ((R4.out.al (.cells #[.int .i64 S0a, .int .i64 S0b, .slice (some ⟨gx0, 0, none⟩) L0a.length L0a.length] 30)))).cell 0
    have a1_1 : (w4.alloc (.cells #[.int .i64 S0a, .int .i64 S0b, .slice (some ⟨gx0, 0, none⟩) L0a.length L0a.length] 30)).cell? ⟨w.heap.size + 1, 1, none⟩ = some (.slice A1b L1b.length c1b) := (KE1.out.nx ((R4.out.al (.cells #[.int .i64 S0a, .int .i64 S0b, .slice (some ⟨gx0, 0, none⟩) L0a.length L0a.length] 30)))).cell 1
    go_wp2_with fail
    refine (lawsToClasses _ _ _ _ _ _ _ _ _ (RDA1a.out _ ((R4.out.al (.cells #[.int .i64 S0a, .int .i64 S0b, .slice (some ⟨gx0, 0, none⟩) L0a.length L0a.length] 30)))) (RDA1b.out _ ((R4.out.al (.cells #[.int .i64 S0a, .int .i64 S0b, .slice (some ⟨gx0, 0, none⟩) L0a.length L0a.length] 30)))) hnA1a hnA1b).mono ?_
    rintro e w5 ⟨px1, qx1, rfl, ox1, bx1⟩
    obtain ⟨Arx1, crx1, rfl, _⟩ := own_form ox1.r
    obtain ⟨Acx1, ccx1, rfl, _⟩ := own_form ox1.c
    have HLX1 := Lib.hid ((fix_vrow ox1).here.lt)
    have FX1 := Lib.hid (fix_vrow ox1)
    have Q5 := Lib.hid (chg_gb 0 0 (gb_of_below bx1 none))
    have R5 := Lib.hid (((R4.out.al (.cells #[.int .i64 S0a, .int .i64 S0b, .slice (some ⟨gx0, 0, none⟩) L0a.length L0a.length] 30))).bl bx1)
    clear bx1 ox1 a1_0 a1_1
    replace FW := Lib.hid (FW.out.nx Q5.out)
    replace KW := Lib.hid (KW.out.nx Q5.out)
    replace FX0 := Lib.hid (FX0.out.nx Q5.out)
    replace KX0 := Lib.hid (KX0.out.nx Q5.out)
    replace FW := Lib.hid ((FW.out).al (.cells #[.slice Arx1 L1a.length crx1, .slice Acx1 L1b.length ccx1] 43))
    replace KW := Lib.hid ((KW.out).alloc (.cells #[.slice Arx1 L1a.length crx1, .slice Acx1 L1b.length ccx1] 43))
    replace FX0 := Lib.hid ((FX0.out).al (.cells #[.slice Arx1 L1a.length crx1, .slice Acx1 L1b.length ccx1] 43))
    replace KX0 := Lib.hid ((KX0.out).alloc (.cells #[.slice Arx1 L1a.length crx1, .slice Acx1 L1b.length ccx1] 43))
    replace FX1 := Lib.hid ((FX1.out).al (.cells #[.slice Arx1 L1a.length crx1, .slice Acx1 L1b.length ccx1] 43))
    have KX1 := Lib.hid (Blk.new w5 43 #[.slice Arx1 L1a.length crx1, .slice Acx1 L1b.length ccx1])
    have x0_0 : (w5.alloc (.cells #[.slice Arx1 L1a.length crx1, .slice Acx1 L1b.length ccx1] 43)).cell? ⟨w4.heap.size, 0, none⟩ = some (.int .i64 S0a) := KX0.out.cell 0
    have x0_1 : (w5.alloc (.cells #[.slice Arx1 L1a.length crx1, .slice Acx1 L1b.length ccx1] 43)).cell? ⟨w4.heap.size, 1, none⟩ = some (.int .i64 S0b) := KX0.out.cell 1
    have x0_2 : (w5.alloc (.cells #[.slice Arx1 L1a.length crx1, .slice Acx1 L1b.length ccx1] 43)).cell? ⟨w4.heap.size, 2, none⟩ = some (.slice (some ⟨gx0, 0, none⟩) L0a.length L0a.length) := KX0.out.cell 2
    have x1_0 : (w5.alloc (.cells #[.slice Arx1 L1a.length crx1, .slice Acx1 L1b.length ccx1] 43)).cell? ⟨w5.heap.size, 0, none⟩ = some (.slice Arx1 L1a.length crx1) := KX1.out.cell 0
    have x1_1 : (w5.alloc (.cells #[.slice Arx1 L1a.length crx1, .slice Acx1 L1b.length ccx1] 43)).cell? ⟨w5.heap.size, 1, none⟩ = some (.slice Acx1 L1b.length ccx1) := KX1.out.cell 1
    go_wp2_with fail
    refine (HIM.out _ _ _ _ _ _ _ _ _ _ (intAt_own (FX0.out.here) rfl (Nat.le_refl _)) (intAt_own (FX1.out.here.r) rfl (Nat.le_refl _)) (intAt_own (FX1.out.here.c) rfl (Nat.le_refl _)) (by omega) (by omega) (by omega) (own_cap (FX0.out.here)).1 (own_cap (FX1.out.here.r)).1 (own_cap (FX1.out.here.c)).1).mono ?_
    rintro e w6 ⟨pg, qg, rfl, og, bg⟩
    obtain ⟨Arg, crg, rfl, _⟩ := own_form og.r
    obtain ⟨Acg, ccg, rfl, _⟩ := own_form og.c
    have R6 : Hid (Chg 0 0 we w6) := Lib.hid (((R5.out.al (.cells #[.slice Arx1 L1a.length crx1, .slice Acx1 L1b.length ccx1] 43))).bl bg)
    have Q6 := Lib.hid (chg_gb 0 0 (gb_of_below bg none))
    have F6 := Lib.hid (fix_vrow og)
    have HLg := Lib.hid (F6.out.here.lt)
    clear bg og
    have KCg := Lib.hid (Blk.new w6 48 #[.int .i64 z, .slice Arg R.length crg, .slice Acg C.length ccg])
    have FCg := Lib.hid (F6.out.al (.cells #[.int .i64 z, .slice Arg R.length crg, .slice Acg C.length ccg] 48))
    have RCg := Lib.hid (R6.out.al (.cells #[.int .i64 z, .slice Arg R.length crg, .slice Acg C.length ccg] 48))
    clear x0_0 x0_1 x0_2 x1_0 x1_1
    replace FW := Lib.hid ((FW.out.nx Q6.out).al (.cells #[.int .i64 z, .slice Arg R.length crg, .slice Acg C.length ccg] 48))
    replace KW := Lib.hid ((KW.out.nx Q6.out).alloc (.cells #[.int .i64 z, .slice Arg R.length crg, .slice Acg C.length ccg] 48))
    replace FX0 := Lib.hid ((FX0.out.nx Q6.out).al (.cells #[.int .i64 z, .slice Arg R.length crg, .slice Acg C.length ccg] 48))
    replace KX0 := Lib.hid ((KX0.out.nx Q6.out).alloc (.cells #[.int .i64 z, .slice Arg R.length crg, .slice Acg C.length ccg] 48))
    replace FX1 := Lib.hid ((FX1.out.nx Q6.out).al (.cells #[.int .i64 z, .slice Arg R.length crg, .slice Acg C.length ccg] 48))
    replace KX1 := Lib.hid ((KX1.out.nx Q6.out).alloc (.cells #[.int .i64 z, .slice Arg R.length crg, .slice Acg C.length ccg] 48))
    have FG := Lib.hid (FCg.out)
    have KG := Lib.hid (KCg.out)
    obtain ⟨B0, E0, B1, E1, Bg, Eg, Bv, Ev, bg, bv, eE0, eE1, ebg, ebv, fx0, kx0, hx0, fx1, kx1, hx1, fg, hg, fw, kg, kw, hn⟩ : ∃ B0 E0 B1 E1 Bg Eg Bv Ev bg bv : Nat, w4.heap.size = E0 ∧ w5.heap.size = E1 ∧ w6.heap.size = bg ∧ bww = bv ∧ Fix B0 E0 (fun w => w.ownsRow B0 3 1 (.slice (some ⟨gx0, 0, none⟩) L0a.length L0a.length) L0a.length (intsV L0a)) (w6.alloc (.cells #[.int .i64 z, .slice Arg R.length crg, .slice Acg C.length ccg] 48)) ∧ Blk (w6.alloc (.cells #[.int .i64 z, .slice Arg R.length crg, .slice Acg C.length ccg] 48)) E0 30 #[.int .i64 S0a, .int .i64 S0b, .slice (some ⟨gx0, 0, none⟩) L0a.length L0a.length] ∧ (∀ k, Value.ownBlock (.slice (some ⟨gx0, 0, none⟩) L0a.length L0a.length) = some k → B0 ≤ k ∧ k < E0) ∧ Fix B1 E1 (fun w => VRow w B1 (.slice Arx1 L1a.length crx1) (.slice Acx1 L1b.length ccx1) L1a.length L1b.length L1a L1b) (w6.alloc (.cells #[.int .i64 z, .slice Arg R.length crg, .slice Acg C.length ccg] 48)) ∧ Blk (w6.alloc (.cells #[.int .i64 z, .slice Arg R.length crg, .slice Acg C.length ccg] 48)) E1 43 #[.slice Arx1 L1a.length crx1, .slice Acx1 L1b.length ccx1] ∧ (∀ k, (Value.ownBlock (.slice Arx1 L1a.length crx1) = some k ∨ Value.ownBlock (.slice Acx1 L1b.length ccx1) = some k) → B1 ≤ k ∧ k < E1) ∧ Fix Bg Eg (fun w => VRow w Bg (.slice Arg R.length crg) (.slice Acg C.length ccg) R.length C.length R C) (w6.alloc (.cells #[.int .i64 z, .slice Arg R.length crg, .slice Acg C.length ccg] 48)) ∧ (∀ k, (Value.ownBlock (.slice Arg R.length crg) = some k ∨ Value.ownBlock (.slice Acg C.length ccg) = some k) → Bg ≤ k ∧ k < Eg) ∧ Fix Bv Ev (fun w => VRow w Bv (.slice Arwv R.length crwv) (.slice Acwv C.length ccwv) R.length C.length R C) (w6.alloc (.cells #[.int .i64 z, .slice Arg R.length crg, .slice Acg C.length ccg] 48)) ∧ Blk (w6.alloc (.cells #[.int .i64 z, .slice Arg R.length crg, .slice Acg C.length ccg] 48)) bg 48 #[.int .i64 z, .slice Arg R.length crg, .slice Acg C.length ccg] ∧ Blk (w6.alloc (.cells #[.int .i64 z, .slice Arg R.length crg, .slice Acg C.length ccg] 48)) bv 48 #[.int .i64 z, .slice Arwv R.length crwv, .slice Acwv C.length ccwv] ∧ we.heap.size ≤ B0 ∧ B0 ≤ E0 ∧ E0 + 1 ≤ B1 ∧ B1 ≤ E1 ∧ E1 + 1 ≤ Bg ∧ Bg ≤ Eg ∧ Ev ≤ B0 ∧ bv < B0 ∧ Eg ≤ bg ∧ E1 < bg := ⟨_, _, _, _, _, _, _, _, _, _, rfl, rfl, rfl, rfl, FX0.out, KX0.out, HLX0.out, FX1.out, KX1.out, HLX1.out, FG.out, HLg.out, FW.out, KG.out, KW.out, (by have hsQ4 := Q4.out.size; have hsQ5 := Q5.out.size; have hsQ6 := Q6.out.size; have h0 := HS0.out; have h1 := HE0.out; have h2 := HW0.out; (try simp only [alloc_size] at *); omega)⟩
    (try simp only [eE0])
    (try simp only [eE1])
    (try simp only [ebg])
    (try simp only [ebv])
    have Zfx0 := Lib.hid (fx0)
    have Zkx0 := Lib.hid (kx0)
    have Zhx0 := Lib.hid (hx0)
    have Zfx1 := Lib.hid (fx1)
    have Zkx1 := Lib.hid (kx1)
    have Zhx1 := Lib.hid (hx1)
    have Zfg := Lib.hid (fg)
    have Zhg := Lib.hid (hg)
    have Zfw := Lib.hid (fw)
    have Zkg := Lib.hid (kg)
    have Zkw := Lib.hid (kw)
    have Zhn := Lib.hid (hn)
    clear fx0 kx0 hx0 fx1 kx1 hx1 fg hg fw kg kw hn
    have RS := Lib.hid (RCg.out)
    have T0 := Lib.hid (Chg.refl 0 0 (w6.alloc (.cells #[.int .i64 z, .slice Arg R.length crg, .slice Acg C.length ccg] 48)))
    have rg_0 : (w6.alloc (.cells #[.int .i64 z, .slice Arg R.length crg, .slice Acg C.length ccg] 48)).cell? ⟨bg, 0, none⟩ = some (.int .i64 z) := (Zkg.out.nx (T0.out)).cell 0
    have rg_1 : (w6.alloc (.cells #[.int .i64 z, .slice Arg R.length crg, .slice Acg C.length ccg] 48)).cell? ⟨bg, 1, none⟩ = some (.slice Arg R.length crg) := (Zkg.out.nx (T0.out)).cell 1
    have rg_2 : (w6.alloc (.cells #[.int .i64 z, .slice Arg R.length crg, .slice Acg C.length ccg] 48)).cell? ⟨bg, 2, none⟩ = some (.slice Acg C.length ccg) := (Zkg.out.nx (T0.out)).cell 2
    have rw_0 : (w6.alloc (.cells #[.int .i64 z, .slice Arg R.length crg, .slice Acg C.length ccg] 48)).cell? ⟨bv, 0, none⟩ = some (.int .i64 z) := (Zkw.out.nx (T0.out)).cell 0
    have rw_1 : (w6.alloc (.cells #[.int .i64 z, .slice Arg R.length crg, .slice Acg C.length ccg] 48)).cell? ⟨bv, 1, none⟩ = some (.slice Arwv R.length crwv) := (Zkw.out.nx (T0.out)).cell 1
    have rw_2 : (w6.alloc (.cells #[.int .i64 z, .slice Arg R.length crg, .slice Acg C.length ccg] 48)).cell? ⟨bv, 2, none⟩ = some (.slice Acwv C.length ccwv) := (Zkw.out.nx (T0.out)).cell 2
    go_wp2_with fail
    refine (lawsEqVerdict z _ _ _ _ _ _ R C _ Zfg.out.here Zfw.out.here (by omega) (by omega)).mono ?_
    rintro e w7 ⟨rfl, hg⟩
    have T7 := Lib.hid (T0.out.gb hg)
    clear hg rg_0 rg_1 rg_2 rw_0 rw_1 rw_2
    have KPc0 := Lib.hid (fun (w' : World) (hq : Chg 0 0 (w6.alloc (.cells #[.int .i64 z, .slice Arg R.length crg, .slice Acg C.length ccg] 48)) w') => (show w'.cell? ⟨w.heap.size, 0, none⟩ = some (.int .i64 S0a) ∧ w'.cell? ⟨w.heap.size, 1, none⟩ = some (.int .i64 S0b) ∧ w'.cell? ⟨w.heap.size, 2, none⟩ = some (.slice A0a L0a.length c0a) ∧ w'.cell? ⟨E0, 0, none⟩ = some (.int .i64 S0a) ∧ w'.cell? ⟨E0, 1, none⟩ = some (.int .i64 S0b) ∧ w'.cell? ⟨E0, 2, none⟩ = some (.slice (some ⟨gx0, 0, none⟩) L0a.length L0a.length) from ⟨(KE0.out.nx (RS.out.trans hq)).cell 0, (KE0.out.nx (RS.out.trans hq)).cell 1, (KE0.out.nx (RS.out.trans hq)).cell 2, (Zkx0.out.nx hq).cell 0, (Zkx0.out.nx hq).cell 1, (Zkx0.out.nx hq).cell 2⟩))
    go_wp2_with fail
    go_region_held3 (fun w' => w'.cell? ⟨w.heap.size, 0, none⟩ = some (.int .i64 S0a) ∧ w'.cell? ⟨w.heap.size, 1, none⟩ = some (.int .i64 S0b) ∧ w'.cell? ⟨w.heap.size, 2, none⟩ = some (.slice A0a L0a.length c0a) ∧ w'.cell? ⟨E0, 0, none⟩ = some (.int .i64 S0a) ∧ w'.cell? ⟨E0, 1, none⟩ = some (.int .i64 S0b) ∧ w'.cell? ⟨E0, 2, none⟩ = some (.slice (some ⟨gx0, 0, none⟩) L0a.length L0a.length))
      (first | with_reducible exact KPc0.out _ (T7.out) | with_reducible exact KPc0.out _ (T7.out.dr) | with_reducible exact KPc0.out _ (T8.out) | with_reducible exact KPc0.out _ (T9.out) | fail)
      (first
        | (go_at_call 31; (with_reducible refine (lawsToMesh _ _ _ _ _ _ _ (RDA0a.out _ (RS.out.trans T7.out.dr)) hnA0a).mono ?_); rintro e w8 ⟨gy0, rfl, oy0, by0⟩; have T8 : Hid (Chg 0 0 (w6.alloc (.cells #[.int .i64 z, .slice Arg R.length crg, .slice Acg C.length ccg] 48)) w8) := Lib.hid (T7.out.dr.bl by0); have F8 := Lib.hid (fix_row oy0); clear by0 oy0)
        | (go_at_call 33; (with_reducible refine (lawsEqMesh _ _ _ _ L0a.length _ _ _ _ L0a _ (intAt_own (Zfx0.out.nx T8.out).here rfl (Nat.le_refl _)) (intAt_own F8.out.here rfl (Nat.le_refl _)) (Nat.le_refl _) (Nat.le_refl _) (by omega)).mono ?_); rintro e w9 ⟨rfl, hg⟩; have T9 : Hid (Chg 0 0 (w6.alloc (.cells #[.int .i64 z, .slice Arg R.length crg, .slice Acg C.length ccg] 48)) w9) := Lib.hid (T8.out.gb hg); clear hg)
        | fail)
    all_goals
      have KPc1 := Lib.hid (fun (w' : World) (hq : Chg 0 0 (w6.alloc (.cells #[.int .i64 z, .slice Arg R.length crg, .slice Acg C.length ccg] 48)) w') => (show w'.cell? ⟨w.heap.size + 1, 0, none⟩ = some (.slice A1a L1a.length c1a) ∧ w'.cell? ⟨w.heap.size + 1, 1, none⟩ = some (.slice A1b L1b.length c1b) ∧ w'.cell? ⟨E1, 0, none⟩ = some (.slice Arx1 L1a.length crx1) ∧ w'.cell? ⟨E1, 1, none⟩ = some (.slice Acx1 L1b.length ccx1) from ⟨(KE1.out.nx (RS.out.trans hq)).cell 0, (KE1.out.nx (RS.out.trans hq)).cell 1, (Zkx1.out.nx hq).cell 0, (Zkx1.out.nx hq).cell 1⟩))
      go_wp2_with fail
      go_region_held3 (fun w' => w'.cell? ⟨w.heap.size + 1, 0, none⟩ = some (.slice A1a L1a.length c1a) ∧ w'.cell? ⟨w.heap.size + 1, 1, none⟩ = some (.slice A1b L1b.length c1b) ∧ w'.cell? ⟨E1, 0, none⟩ = some (.slice Arx1 L1a.length crx1) ∧ w'.cell? ⟨E1, 1, none⟩ = some (.slice Acx1 L1b.length ccx1))
        (first | with_reducible exact KPc1.out _ (T9.out) | with_reducible exact KPc1.out _ (T9.out.dr) | with_reducible exact KPc1.out _ (T10.out) | with_reducible exact KPc1.out _ (T11.out) | fail)
        (first
          | (go_at_call 32; (with_reducible refine (lawsToClasses _ _ _ _ _ _ _ _ _ (RDA1a.out _ (RS.out.trans T9.out.dr)) (RDA1b.out _ (RS.out.trans T9.out.dr)) hnA1a hnA1b).mono ?_); rintro e w10 ⟨py1, qy1, rfl, oy1, by1⟩; obtain ⟨Ary1, cry1, rfl, _⟩ := own_form oy1.r; obtain ⟨Acy1, ccy1, rfl, _⟩ := own_form oy1.c; have T10 : Hid (Chg 0 0 (w6.alloc (.cells #[.int .i64 z, .slice Arg R.length crg, .slice Acg C.length ccg] 48)) w10) := Lib.hid (T9.out.dr.bl by1); have F10 := Lib.hid (fix_vrow oy1); clear by1 oy1)
          | (go_at_call 34; (with_reducible refine (lawsEqClasses _ _ _ _ _ _ L1a L1b _ (Zfx1.out.nx T10.out).here F10.out.here (by omega) (by omega)).mono ?_); rintro e w11 ⟨rfl, hg⟩; have T11 : Hid (Chg 0 0 (w6.alloc (.cells #[.int .i64 z, .slice Arg R.length crg, .slice Acg C.length ccg] 48)) w11) := Lib.hid (T10.out.gb hg); clear hg)
          | fail)
      all_goals
        have M0 := Lib.hid (T11.out.mono (lo' := 0) (hi' := 0) (Nat.le_refl _) (Nat.le_refl _))
        have n0_0 : w11.cell? ⟨E0, 0, none⟩ = some (.int .i64 S0a) := (Zkx0.out.nx T11.out).cell 0
        have n0_1 : w11.cell? ⟨E0, 1, none⟩ = some (.int .i64 S0b) := (Zkx0.out.nx T11.out).cell 1
        have n0_2 : w11.cell? ⟨E0, 2, none⟩ = some (.slice (some ⟨gx0, 0, none⟩) L0a.length L0a.length) := (Zkx0.out.nx T11.out).cell 2
        go_wp2_with fail
        refine (lawsMarkMesh _ _ _ _ L0a.length 1 L0a _ (Zfx0.out.nx T11.out).here (by omega)).mono ?_
        rintro e w12 ⟨rfl, om0, ggm0⟩
        have M12 := Lib.hid (((chg_none_to T11.out : Chg B0 E0 (w6.alloc (.cells #[.int .i64 z, .slice Arg R.length crg, .slice Acg C.length ccg] 48)) w11)).row ggm0 (fun j hj => by have hx := Zhx0.out j hj; have hn := Zhn.out; omega))
        obtain ⟨k12, hk12⟩ : ∃ k : Nat, 1 + L0a.length = k := ⟨_, rfl⟩
        rw [hk12]
        have hkb12 : k12 ≤ 10000000 := by omega
        clear om0 ggm0 hk12 n0_0 n0_1 n0_2
        have n1_0 : w12.cell? ⟨E1, 0, none⟩ = some (.slice Arx1 L1a.length crx1) := (Zkx1.out.chg M12.out (by have hn := Zhn.out; omega)).cell 0
        have n1_1 : w12.cell? ⟨E1, 1, none⟩ = some (.slice Acx1 L1b.length ccx1) := (Zkx1.out.chg M12.out (by have hn := Zhn.out; omega)).cell 1
        go_wp2_with fail
        refine (lawsMarkClasses _ _ _ L1a.length L1b.length k12 L1a L1b _ (Zfx1.out.chg M12.out (by have hn := Zhn.out; omega)).here (by omega)).mono ?_
        rintro e w13 ⟨rfl, om1, wmm1, omm1, ggm1, ghm1⟩
        have M13 := Lib.hid ((((M12.out.mono (lo' := B0) (hi' := E1) (Nat.le_refl _) (by have hn := Zhn.out; omega))).row ggm1 (fun j hj => by have hx := Zhx1.out j (.inl hj); have hn := Zhn.out; omega)).row ghm1 (fun j hj => by have hx := Zhx1.out j (.inr hj); have hn := Zhn.out; omega))
        obtain ⟨k13, hk13⟩ : ∃ k : Nat, k12 + L1a.length + L1b.length = k := ⟨_, rfl⟩
        rw [hk13]
        have hkb13 : k13 ≤ 20000000 := by omega
        clear om1 ggm1 ghm1 hk13 n1_0 n1_1 omm1
        have hk0 : ¬ (k13 : Int) < 0 := by omega
        have rg_0 : w13.cell? ⟨bg, 0, none⟩ = some (.int .i64 z) := (Zkg.out.chg M13.out (by have hn := Zhn.out; omega)).cell 0
        have rg_1 : w13.cell? ⟨bg, 1, none⟩ = some (.slice Arg R.length crg) := (Zkg.out.chg M13.out (by have hn := Zhn.out; omega)).cell 1
        have rg_2 : w13.cell? ⟨bg, 2, none⟩ = some (.slice Acg C.length ccg) := (Zkg.out.chg M13.out (by have hn := Zhn.out; omega)).cell 2
        have rw_0 : w13.cell? ⟨bv, 0, none⟩ = some (.int .i64 z) := (Zkw.out.chg M13.out (by have hn := Zhn.out; omega)).cell 0
        have rw_1 : w13.cell? ⟨bv, 1, none⟩ = some (.slice Arwv R.length crwv) := (Zkw.out.chg M13.out (by have hn := Zhn.out; omega)).cell 1
        have rw_2 : w13.cell? ⟨bv, 2, none⟩ = some (.slice Acwv C.length ccwv) := (Zkw.out.chg M13.out (by have hn := Zhn.out; omega)).cell 2
        go_wp2_with fail
        refine (lawsEqVerdict z _ _ _ _ _ _ R C _ (Zfg.out.chg M13.out (by have hn := Zhn.out; omega)).here (Zfw.out.chg M13.out (by have hn := Zhn.out; omega)).here (by omega) (by omega)).mono ?_
        rintro e w14 ⟨rfl, hg⟩
        have M14 := Lib.hid (M13.out.gb hg)
        clear hg hk0 rg_0 rg_1 rg_2 rw_0 rw_1 rw_2
        have r_0 : w14.cell? ⟨bg, 0, none⟩ = some (.int .i64 z) := (Zkg.out.chg M14.out (by have hn := Zhn.out; omega)).cell 0
        have r_1 : w14.cell? ⟨bg, 1, none⟩ = some (.slice Arg R.length crg) := (Zkg.out.chg M14.out (by have hn := Zhn.out; omega)).cell 1
        have r_2 : w14.cell? ⟨bg, 2, none⟩ = some (.slice Acg C.length ccg) := (Zkg.out.chg M14.out (by have hn := Zhn.out; omega)).cell 2
        go_wp2_with fail
        refine (lawsMarkVerdict z _ _ _ R.length C.length 1 R C _ (Zfg.out.chg M14.out (by have hn := Zhn.out; omega)).here (by omega)).mono ?_
        rintro e w15 ⟨rfl, omg, wmmg, ommg, ggmg, ghmg⟩
        have MG := Lib.hid ((((M14.out.mono (lo' := B0) (hi' := Eg) (Nat.le_refl _) (by have hn := Zhn.out; omega))).row ggmg (fun j hj => by have hx := Zhg.out j (.inl hj); have hn := Zhn.out; omega)).row ghmg (fun j hj => by have hx := Zhg.out j (.inr hj); have hn := Zhn.out; omega))
        obtain ⟨km, hkm⟩ : ∃ k : Nat, 1 + R.length + C.length = k := ⟨_, rfl⟩
        rw [hkm]
        have hkb : km ≤ 100000000 := by omega
        have HKM := Lib.hid (hkm)
        have hkn : ¬ (km : Int) < 0 := by omega
        have FM := Lib.hid (fix_vrow omg)
        clear omg ggmg ghmg hkm ommg r_0 r_1 r_2
        have KE0m := Lib.hid ((KE0.out.nx RS.out).chg MG.out (by have hb := KE0.out.lt; have hn := Zhn.out; omega))
        have KE1m := Lib.hid ((KE1.out.nx RS.out).chg MG.out (by have hb := KE1.out.lt; have hn := Zhn.out; omega))
        have BEm := Lib.hid ((BE.out.trans (RS.out.below (.inr (Nat.le_refl _)) BE.out.size)).trans (MG.out.below (.inl (by have hb := GE.out.size; have hn := Zhn.out; omega)) (by have hb := BE.out.size; have hc := RS.out.size; omega)))
        have FWm := Lib.hid (Zfw.out.chg MG.out (by have hn := Zhn.out; omega))
        have KWm := Lib.hid (Zkw.out.chg MG.out (by have hn := Zhn.out; omega))
        have KGm := Lib.hid (Zkg.out.chg MG.out (by have hn := Zhn.out; omega))
        have RDA0am := Lib.hid (fun (w' : World) (hq : Chg 0 0 w15 w') => HA0a.out.chg BEm.out hq (.inr (Nat.le_refl _)))
        have RDA1am := Lib.hid (fun (w' : World) (hq : Chg 0 0 w15 w') => HA1a.out.chg BEm.out hq (.inr (Nat.le_refl _)))
        have RDA1bm := Lib.hid (fun (w' : World) (hq : Chg 0 0 w15 w') => HA1b.out.chg BEm.out hq (.inr (Nat.le_refl _)))
        have U0 := Lib.hid (Chg.refl 0 0 w15)
        have r_0 : w15.cell? ⟨bg, 0, none⟩ = some (.int .i64 z) := (KGm.out.nx (U0.out)).cell 0
        have r_1 : w15.cell? ⟨bg, 1, none⟩ = some (.slice Arg R.length crg) := (KGm.out.nx (U0.out)).cell 1
        have r_2 : w15.cell? ⟨bg, 2, none⟩ = some (.slice Acg C.length ccg) := (KGm.out.nx (U0.out)).cell 2
        go_wp2_with fail
        refine (lawsHeldVerdict z _ _ _ R.length C.length 1 _ (FM.out.nx (U0.out)).here (by omega)).mono ?_
        rintro e w16 ⟨rfl, hg⟩
        rw [HKM.out]
        have U16 := Lib.hid ((U0.out).gb hg)
        clear hg r_0 r_1 r_2
        go_wp2_with fail
        have KPh := Lib.hid (fun (w' : World) (hq : Chg 0 0 w15 w') => (show w'.cell? ⟨w.heap.size, 0, none⟩ = some (.int .i64 S0a) ∧ w'.cell? ⟨w.heap.size, 1, none⟩ = some (.int .i64 S0b) ∧ w'.cell? ⟨w.heap.size, 2, none⟩ = some (.slice A0a L0a.length c0a) ∧ w'.cell? ⟨w.heap.size + 1, 0, none⟩ = some (.slice A1a L1a.length c1a) ∧ w'.cell? ⟨w.heap.size + 1, 1, none⟩ = some (.slice A1b L1b.length c1b) from ⟨(KE0m.out.nx hq).cell 0, (KE0m.out.nx hq).cell 1, (KE0m.out.nx hq).cell 2, (KE1m.out.nx hq).cell 0, (KE1m.out.nx hq).cell 1⟩))
        go_cut [13] from 14 (fun s13 wch => ∃ (bhw Bh Eh : Nat) (Arhv : Option Addr) (crhv : Nat) (Achv : Option Addr) (cchv : Nat), s13 = .pointer (some ⟨bhw, 0, none⟩) ∧ Chg 0 0 w15 wch ∧ Blk wch bhw 48 #[.int .i64 z, .slice Arhv R.length crhv, .slice Achv C.length cchv] ∧ Fix Bh Eh (fun w => VRow w Bh (.slice Arhv R.length crhv) (.slice Achv C.length cchv) R.length C.length R C) wch ∧ (w15.heap.size ≤ Bh ∧ Bh ≤ Eh ∧ (bhw < Bh ∨ Eh ≤ bhw)) ∧ (∀ k, (Value.ownBlock (.slice Arhv R.length crhv) = some k ∨ Value.ownBlock (.slice Achv C.length cchv) = some k) → Bh ≤ k ∧ k < Eh))
        case first =>
          go_region_held3 (fun w' => w'.cell? ⟨w.heap.size, 0, none⟩ = some (.int .i64 S0a) ∧ w'.cell? ⟨w.heap.size, 1, none⟩ = some (.int .i64 S0b) ∧ w'.cell? ⟨w.heap.size, 2, none⟩ = some (.slice A0a L0a.length c0a) ∧ w'.cell? ⟨w.heap.size + 1, 0, none⟩ = some (.slice A1a L1a.length c1a) ∧ w'.cell? ⟨w.heap.size + 1, 1, none⟩ = some (.slice A1b L1b.length c1b))
            (first | with_reducible exact KPh.out _ (U16.out) | with_reducible exact KPh.out _ (U16.out.dr) | with_reducible exact KPh.out _ ((U16.out.al (.cells #[.int .i64 0, .slice none 0 0, .slice none 0 0] 48))) | with_reducible exact KPh.out _ ((U16.out.al (.cells #[.int .i64 0, .slice none 0 0, .slice none 0 0] 48)).dr) | with_reducible exact KPh.out _ ((U16.out.dr.al (.cells #[.int .i64 0, .slice none 0 0, .slice none 0 0] 48))) | with_reducible exact KPh.out _ (R17.out) | with_reducible exact KPh.out _ ((R17.out.al (.cells #[.int .i64 0, .slice none 0 0, .slice none 0 0] 48))) | with_reducible exact KPh.out _ (R18.out) | with_reducible exact KPh.out _ ((R18.out.al (.cells #[.int .i64 0, .slice none 0 0, .slice none 0 0] 48))) | with_reducible exact KPh.out _ (R19.out) | with_reducible exact KPh.out _ ((R19.out.al _)) | with_reducible exact KPh.out _ ((R19.out.sb U16.out.size 0 _)) | with_reducible exact KPh.out _ (((R19.out.sb U16.out.size 0 _).sb U16.out.size 1 _)) | with_reducible exact KPh.out _ ((((R19.out.sb U16.out.size 0 _).sb U16.out.size 1 _).sb U16.out.size 2 _)) | with_reducible exact KPh.out _ ((R19.out.sb R17.out.size 0 _)) | with_reducible exact KPh.out _ (((R19.out.sb R17.out.size 0 _).sb R17.out.size 1 _)) | with_reducible exact KPh.out _ ((((R19.out.sb R17.out.size 0 _).sb R17.out.size 1 _).sb R17.out.size 2 _)) | with_reducible exact KPh.out _ ((R19.out.sb R18.out.size 0 _)) | with_reducible exact KPh.out _ (((R19.out.sb R18.out.size 0 _).sb R18.out.size 1 _)) | with_reducible exact KPh.out _ ((((R19.out.sb R18.out.size 0 _).sb R18.out.size 1 _).sb R18.out.size 2 _)) | fail)
            (first
              | (go_at_call 31; (first | (with_reducible refine (lawsToMesh _ _ _ _ _ _ _ (RDA0am.out _ (U16.out.dr)) hnA0a).mono ?_) | (with_reducible refine (lawsToMesh _ _ _ _ _ _ _ (RDA0am.out _ ((U16.out.al (.cells #[.int .i64 0, .slice none 0 0, .slice none 0 0] 48)).dr)) hnA0a).mono ?_) | (with_reducible refine (lawsToMesh _ _ _ _ _ _ _ (RDA0am.out _ (U16.out.dr.al (.cells #[.int .i64 0, .slice none 0 0, .slice none 0 0] 48))) hnA0a).mono ?_) | fail); rintro e w17 ⟨gh0, rfl, oh0, bh0⟩; have R17 : Hid (Chg 0 0 w15 w17) := Lib.hid (by first | exact (U16.out.dr).bl bh0 | exact ((U16.out.al (.cells #[.int .i64 0, .slice none 0 0, .slice none 0 0] 48)).dr).bl bh0 | exact (U16.out.dr.al (.cells #[.int .i64 0, .slice none 0 0, .slice none 0 0] 48)).bl bh0 | fail); have Q17 := Lib.hid (chg_gb 0 0 (gb_of_below bh0 none)); have F17 := Lib.hid (fix_row oh0); (try (first | have ZZ17 := Lib.hid ((Blk.new _ 48 #[.int .i64 0, .slice none 0 0, .slice none 0 0]).nx ((chg_drew _).trans Q17.out)) | have ZZ17 := Lib.hid ((Blk.new _ 48 #[.int .i64 0, .slice none 0 0, .slice none 0 0]).nx Q17.out) | fail)); clear bh0 oh0)
              | (go_at_call 32; (first | (with_reducible refine (lawsToClasses _ _ _ _ _ _ _ _ _ (RDA1am.out _ (R17.out)) (RDA1bm.out _ (R17.out)) hnA1a hnA1b).mono ?_) | (with_reducible refine (lawsToClasses _ _ _ _ _ _ _ _ _ (RDA1am.out _ ((R17.out.al (.cells #[.int .i64 0, .slice none 0 0, .slice none 0 0] 48)))) (RDA1bm.out _ ((R17.out.al (.cells #[.int .i64 0, .slice none 0 0, .slice none 0 0] 48)))) hnA1a hnA1b).mono ?_) | fail); rintro e w18 ⟨ph1, qh1, rfl, oh1, bh1⟩; obtain ⟨Arh1, crh1, rfl, _⟩ := own_form oh1.r; obtain ⟨Ach1, cch1, rfl, _⟩ := own_form oh1.c; have R18 : Hid (Chg 0 0 w15 w18) := Lib.hid (by first | exact (R17.out).bl bh1 | exact ((R17.out.al (.cells #[.int .i64 0, .slice none 0 0, .slice none 0 0] 48))).bl bh1 | fail); have Q18 := Lib.hid (chg_gb 0 0 (gb_of_below bh1 none)); have F18 := Lib.hid (fix_vrow oh1); (try (first | have ZZ18 := Lib.hid (ZZ17.out.nx Q18.out) | have ZZ18 := Lib.hid ((Blk.new w17 48 #[.int .i64 0, .slice none 0 0, .slice none 0 0]).nx Q18.out) | fail)); clear bh1 oh1)
              | (go_at_call 21; (first | (with_reducible refine (HIM.out _ _ _ _ _ _ _ _ _ _ (intAt_own ((F17.out.nx Q18.out).here) rfl (Nat.le_refl _)) (intAt_own (F18.out.here.r) rfl (Nat.le_refl _)) (intAt_own (F18.out.here.c) rfl (Nat.le_refl _)) (by omega) (by omega) (by omega) (own_cap ((F17.out.nx Q18.out).here)).1 (own_cap (F18.out.here.r)).1 (own_cap (F18.out.here.c)).1).mono ?_) | (with_reducible refine (HIM.out _ _ _ _ _ _ _ _ _ _ (intAt_own (((F17.out.al (.cells #[.int .i64 0, .slice none 0 0, .slice none 0 0] 48)).nx Q18.out).here) rfl (Nat.le_refl _)) (intAt_own (F18.out.here.r) rfl (Nat.le_refl _)) (intAt_own (F18.out.here.c) rfl (Nat.le_refl _)) (by omega) (by omega) (by omega) (own_cap (((F17.out.al (.cells #[.int .i64 0, .slice none 0 0, .slice none 0 0] 48)).nx Q18.out).here)).1 (own_cap (F18.out.here.r)).1 (own_cap (F18.out.here.c)).1).mono ?_) | (with_reducible refine (HIM.out _ _ _ _ _ _ _ _ _ _ (intAt_own (((F17.out.nx Q18.out).al (.cells #[.int .i64 0, .slice none 0 0, .slice none 0 0] 48)).here) rfl (Nat.le_refl _)) (intAt_own ((F18.out.al (.cells #[.int .i64 0, .slice none 0 0, .slice none 0 0] 48)).here.r) rfl (Nat.le_refl _)) (intAt_own ((F18.out.al (.cells #[.int .i64 0, .slice none 0 0, .slice none 0 0] 48)).here.c) rfl (Nat.le_refl _)) (by omega) (by omega) (by omega) (own_cap (((F17.out.nx Q18.out).al (.cells #[.int .i64 0, .slice none 0 0, .slice none 0 0] 48)).here)).1 (own_cap ((F18.out.al (.cells #[.int .i64 0, .slice none 0 0, .slice none 0 0] 48)).here.r)).1 (own_cap ((F18.out.al (.cells #[.int .i64 0, .slice none 0 0, .slice none 0 0] 48)).here.c)).1).mono ?_) | fail); rintro e w19 ⟨ph, qh, rfl, oh, bh⟩; obtain ⟨Arh, crh, rfl, _⟩ := own_form oh.r; obtain ⟨Ach, cch, rfl, _⟩ := own_form oh.c; have R19 : Hid (Chg 0 0 w15 w19) := Lib.hid (by first | exact (R18.out).bl bh | exact ((R18.out.al (.cells #[.int .i64 0, .slice none 0 0, .slice none 0 0] 48))).bl bh | fail); have Q19 := Lib.hid (chg_gb 0 0 (gb_of_below bh none)); have F19 := Lib.hid (fix_vrow oh); (try ((first | have ZZ19 := Lib.hid (ZZ18.out.nx Q19.out) | have ZZ19 := Lib.hid ((Blk.new w18 48 #[.int .i64 0, .slice none 0 0, .slice none 0 0]).nx Q19.out) | fail); have zch0 : _ = some ((.int .i64 0) : Value) := ZZ19.out.cell 0; have zfh0 := ZZ19.out.frozen 0; have zch1 : _ = some ((.slice none 0 0) : Value) := ZZ19.out.cell 1; have zfh1 := ZZ19.out.frozen 1; have zch2 : _ = some ((.slice none 0 0) : Value) := ZZ19.out.cell 2; have zfh2 := ZZ19.out.frozen 2)); clear bh oh)
              | fail)
          all_goals
            go_wp2_with fail
            go_meet
            case rel => exact ⟨_, _, _, _, _, _, _, rfl, (by first | exact (R19.out.al _) | exact (((R19.out.sb U16.out.size 0 _).sb U16.out.size 1 _).sb U16.out.size 2 _) | exact (((R19.out.sb R17.out.size 0 _).sb R17.out.size 1 _).sb R17.out.size 2 _) | exact (((R19.out.sb R18.out.size 0 _).sb R18.out.size 1 _).sb R18.out.size 2 _) | fail), (by first | exact Blk.new _ _ _ | exact (by have hz := (((ZZ19.out.set_ 0 (.int .i64 z)).set_ 1 (.slice Arh R.length crh)).set_ 2 (.slice Ach C.length cch)); simpa using hz) | fail), (by first | exact F19.out.al _ | exact F19.out.chg (((st_in _ _ _ _).si _).si _) (.inr (.inl (by (try have hs17 := Q17.out.size); (try have hs18 := Q18.out.size); (try have hs19 := Q19.out.size); simp only [alloc_size, drew_heap] at *; omega))) | fail), (by (try have hs17 := Q17.out.size); (try have hs18 := Q18.out.size); (try have hs19 := Q19.out.size); (try have hs0 := U16.out.size); (try simp only [alloc_size, drew_heap] at *); omega), F19.out.here.lt⟩
        case rest =>
          obtain ⟨bhw, Bh, Eh, Arhv, crhv, Achv, cchv, rfl, hx, hk, hf, hb, hl⟩ := hcut
          obtain ⟨wdh, hwd⟩ : ∃ x, x = wc := ⟨_, rfl⟩
          subst hwd
          have RCh := Lib.hid (hx)
          have KCh := Lib.hid (hk)
          have FCh := Lib.hid (hf)
          have HBh := Lib.hid (hb)
          have HLh := Lib.hid (hl)
          clear hx hk hf hb hl
          have rh_0 : wdh.cell? ⟨bhw, 0, none⟩ = some (.int .i64 z) := KCh.out.cell 0
          have rh_1 : wdh.cell? ⟨bhw, 1, none⟩ = some (.slice Arhv R.length crhv) := KCh.out.cell 1
          have rh_2 : wdh.cell? ⟨bhw, 2, none⟩ = some (.slice Achv C.length cchv) := KCh.out.cell 2
          have rw_0 : wdh.cell? ⟨bv, 0, none⟩ = some (.int .i64 z) := (KWm.out.nx (RCh.out)).cell 0
          have rw_1 : wdh.cell? ⟨bv, 1, none⟩ = some (.slice Arwv R.length crwv) := (KWm.out.nx (RCh.out)).cell 1
          have rw_2 : wdh.cell? ⟨bv, 2, none⟩ = some (.slice Acwv C.length ccwv) := (KWm.out.nx (RCh.out)).cell 2
          go_wp2_with fail
          refine (lawsEqVerdict z _ _ _ _ _ _ R C _ FCh.out.here (FWm.out.nx (RCh.out)).here (by omega) (by omega)).mono ?_
          rintro e w20 ⟨rfl, hg⟩
          have U20 := Lib.hid ((RCh.out).gb hg)
          clear hg rh_0 rh_1 rh_2 rw_0 rw_1 rw_2
          have r_0 : w20.cell? ⟨bg, 0, none⟩ = some (.int .i64 z) := (KGm.out.nx (U20.out)).cell 0
          have r_1 : w20.cell? ⟨bg, 1, none⟩ = some (.slice Arg R.length crg) := (KGm.out.nx (U20.out)).cell 1
          have r_2 : w20.cell? ⟨bg, 2, none⟩ = some (.slice Acg C.length ccg) := (KGm.out.nx (U20.out)).cell 2
          go_wp2_with fail
          refine (lawsHeldVerdict z _ _ _ R.length C.length 1 _ (FM.out.nx (U20.out)).here (by omega)).mono ?_
          rintro e w21 ⟨rfl, hg⟩
          rw [HKM.out]
          have U21 := Lib.hid ((U20.out).gb hg)
          clear hg r_0 r_1 r_2
          go_wp2_with fail
          go_ret
          exact ⟨rfl, BEm.out.trans ((U21.out).below (.inr (Nat.le_refl _)) BEm.out.size)⟩
end Go.Proofs.Ytcmlnokfjbglaaa
end

section
namespace Go.Proofs.Ytcmlnokfjbglaaa
open Go.ChangeShapes Go.WideShapes Go.ChangeAt Go.RowKit
set_option linter.unusedVariables false

/-- A new pair of tables and whether there is one. -/
def RetCls (P Q : List Int) (b : Bool) (w : World) (e : Ending) (w' : World) : Prop :=
  ∃ vp vq, e = .returned (.tuple #[.agg #[vp, vq], .bool b]) ∧ VRow w' w.heap.size vp vq P.length Q.length P Q ∧ Below w.heap.size w w'
end Go.Proofs.Ytcmlnokfjbglaaa
end

section
namespace Go.Proofs.Ytcmlnokfjbglaaa
open Go.ChangeShapes Go.WideShapes Go.ChangeAt Go.RowKit
set_option linter.unusedVariables false

def portAll (W H r a b : Int) : Int := if (hasG W H a && hasG W H b && decide (1 ≤ r ∧ r ≤ 4)) = true then stdPort W r a b else -1
def stdOk (W H r : Int) : Bool := okG W H && decide (1 ≤ r ∧ r ≤ 4)
def stdRes (W H r : Int) : List Int := if stdOk W H r = true then stdTab W H r else []
theorem stdRes_length (W H r : Int) : (stdRes W H r).length ≤ 256 := by
  unfold stdRes
  split
  · rw [stdTab, stdTo_len]; exact sq_le W H
  · simp
end Go.Proofs.Ytcmlnokfjbglaaa
end

section
namespace Go.Proofs.Ytcmlnokfjbglaaa
open Go.ChangeShapes Go.WideShapes Go.ChangeAt Go.RowKit
set_option linter.unusedVariables false
set_option maxRecDepth 20000

set_option maxHeartbeats 1600000 in
theorem specSplit (W H : Int) (w : World) :
    Calls Try.prog 48 #[.agg #[.int .i64 W, .int .i64 H]] w (RetCls (stdRes W H 1) (stdRes W H 2) (okG W H) w) := by
  have hg := gb_alloc (gb_alloc (gb_refl w none) (.cells #[.int .i64 W, .int .i64 H] 27)) (.cells #[.slice none 0 0, .slice none 0 0] 43)
  have kg := (Blk.new w 27 #[.int .i64 W, .int .i64 H]).alloc (.cells #[.slice none 0 0, .slice none 0 0] 43)
  have kb := Blk.new (w.alloc (.cells #[.int .i64 W, .int .i64 H] 27)) 43 #[.slice none 0 0, .slice none 0 0]
  rw [alloc_size] at kb
  have KB := Lib.hid kb
  have KG := Lib.hid kg
  have HG := Lib.hid hg
  clear hg kg kb
  cases hok : okG W H with
  | false =>
    have HO := Lib.hid (fun w => show Calls Try.prog 81 #[.agg #[.int .i64 W, .int .i64 H]] w (RetB false w) from hok ▸ specGridOk W H w)
    have H1 := Lib.hid (show stdRes W H 1 = [] ∧ stdRes W H 2 = [] by unfold stdRes stdOk; rw [hok]; exact ⟨rfl, rfl⟩)
    clear hok
    go_enter Try.func48, Try.ntmps48
    go_wp2_with fail
    refine (HO.out _).mono ?_
    rintro e w1 ⟨rfl, hg⟩
    have K1 := Lib.hid (KB.out.grown hg (by simp))
    have G1 := Lib.hid (gb_trans HG.out hg)
    have e0 : w1.cell? ⟨w.heap.size + 1, 0, none⟩ = some (.slice none 0 0) := K1.out.cell 0
    have e1 : w1.cell? ⟨w.heap.size + 1, 1, none⟩ = some (.slice none 0 0) := K1.out.cell 1
    have f0 := K1.out.frozen 0
    have f1 := K1.out.frozen 1
    clear hg
    go_wp2_with fail
    have hb := (K1.out.set_ 0 (.slice none 0 0)).set_ 1 (.slice none 0 0)
    have r0 := hb.cell 0
    have r1 := hb.cell 1
    simp at r0 r1
    refine bodyPost_ret (v := .tuple #[.agg #[.slice none 0 0, .slice none 0 0], .bool false]) (by simp [results, Try.results48, go_sem, r0, r1]) rfl ⟨_, _, rfl, ⟨?_, ?_, none_apart _⟩, ?_⟩
    · rw [H1.out.1]; exact World.ownsRow_nil _ _ _ _
    · rw [H1.out.2]; exact World.ownsRow_nil _ _ _ _
    · exact ((gb_below_none G1.out (Nat.le_refl _)).setCell (by show w.heap.size ≤ w.heap.size + 1; omega) _).setCell (by show w.heap.size ≤ w.heap.size + 1; omega) _
  | true =>
    have HO := Lib.hid (fun w => show Calls Try.prog 81 #[.agg #[.int .i64 W, .int .i64 H]] w (RetB true w) from hok ▸ specGridOk W H w)
    have H1 := Lib.hid (show stdRes W H 1 = stdTab W H 1 ∧ stdRes W H 2 = stdTab W H 2 by unfold stdRes stdOk; rw [hok]; exact ⟨rfl, rfl⟩)
    have HM1 := Lib.hid (fun w => specMake W H 1 hok (by omega) (by omega) w)
    have HM2 := Lib.hid (fun w => specMake W H 2 hok (by omega) (by omega) w)
    obtain ⟨P, hP⟩ : ∃ P, stdTab W H 1 = P := ⟨_, rfl⟩
    obtain ⟨Q, hQ⟩ : ∃ Q, stdTab W H 2 = Q := ⟨_, rfl⟩
    rw [hP, hQ] at H1
    rw [hP] at HM1
    rw [hQ] at HM2
    clear hok hP hQ
    go_enter Try.func48, Try.ntmps48
    go_wp2_with fail
    refine (HO.out _).mono ?_
    rintro e w1 ⟨rfl, hg⟩
    have K1 := Lib.hid (KB.out.grown hg (by simp))
    have KG1 := Lib.hid (KG.out.grown hg (by simp))
    have G1 := Lib.hid (gb_trans HG.out hg)
    have R1 := Lib.hid (Chg.refl 0 0 w1)
    have KP := Lib.hid (fun (w' : World) (hq : Chg (w.heap.size + 1) (w.heap.size + 2) w1 w') => (show w'.cell? ⟨w.heap.size, 0, none⟩ = some (.int .i64 W) ∧ w'.cell? ⟨w.heap.size, 1, none⟩ = some (.int .i64 H) from ⟨(KG1.out.chg hq (.inl (Nat.lt_succ_self _))).cell 0, (KG1.out.chg hq (.inl (Nat.lt_succ_self _))).cell 1⟩))
    clear hg
    go_wp2_with fail
    go_region_held3 (fun w' => w'.cell? ⟨w.heap.size, 0, none⟩ = some (.int .i64 W) ∧ w'.cell? ⟨w.heap.size, 1, none⟩ = some (.int .i64 H))
      (first | with_reducible exact KP.out _ (Chg.refl _ _ _) | with_reducible exact KP.out _ ((Chg.refl _ _ w1).dr) | with_reducible exact KP.out _ (R2.out) | with_reducible exact KP.out _ (R3.out) | with_reducible exact KP.out _ (R3.out.sx 0 _) | with_reducible exact KP.out _ ((R3.out.sx 0 _).sx 1 _) | fail)
      (first
        | (go_at_call 82; (with_reducible refine (HM1.out _).mono ?_); rintro e w2 ⟨v2, rfl, o2, b2⟩; obtain ⟨A2, c2, rfl, _⟩ := own_form o2; have R2 := Lib.hid ((Chg.refl (w.heap.size + 1) (w.heap.size + 2) w1).dr.bl b2); have O2 := Lib.hid o2; have L2 := Lib.hid o2.lt; have G12 := Lib.hid (show w1.grownBy w2 none from gb_drD0 (gb_of_below b2 none)); clear o2 b2)
        | (go_at_call 82; (with_reducible refine (HM2.out _).mono ?_); rintro e w3 ⟨v3, rfl, o3, b3⟩; obtain ⟨A3, c3, rfl, _⟩ := own_form o3; have R3 := Lib.hid (R2.out.bl b3); have O23 := Lib.hid (own_below O2.out b3); have G13 := Lib.hid (gb_trans G12.out (gb_of_below b3 none)); have O3 := Lib.hid o3; have K3 := Lib.hid (K1.out.grown G13.out (by simp)); have e0 : w3.cell? ⟨w.heap.size + 1, 0, none⟩ = some (.slice none 0 0) := K3.out.cell 0; have e1 : w3.cell? ⟨w.heap.size + 1, 1, none⟩ = some (.slice none 0 0) := K3.out.cell 1; have f0 := K3.out.frozen 0; have f1 := K3.out.frozen 1; clear o3 b3)
        | fail)
    all_goals
      go_wp2_with fail
      have hb := (K3.out.set_ 0 (.slice A2 P.length c2)).set_ 1 (.slice A3 Q.length c3)
      have r0 := hb.cell 0
      have r1 := hb.cell 1
      simp at r0 r1
      have hbl : w.heap.size ≤ w.heap.size + 1 := by omega
      have s1 := G1.out.size
      have s2 := G12.out.size
      have gx : w3.grownBy ((w3.setCell ⟨w.heap.size + 1, 0, none⟩ (.slice A2 P.length c2)).setCell ⟨w.heap.size + 1, 1, none⟩ (.slice A3 Q.length c3)) (some (w.heap.size + 1)) := gb_setCell (p := ⟨w.heap.size + 1, 1, none⟩) (gb_setCell (p := ⟨w.heap.size + 1, 0, none⟩) (gb_refl w3 (some (w.heap.size + 1))) (.inl rfl) _) (.inl rfl) _
      have kk1 := row_kept O23.out gx (fun j e e2 => by cases e; exact own_ne O23.out K3.out (by decide) e2)
      have kk2 := row_kept O3.out gx (fun j e e2 => by cases e; exact own_ne O3.out K3.out (by decide) e2)
      refine bodyPost_ret (v := .tuple #[.agg #[.slice A2 P.length c2, .slice A3 Q.length c3], .bool true]) (by simp [results, Try.results48, go_sem, r0, r1]) rfl ⟨_, _, rfl, ⟨?_, ?_, ?_⟩, ?_⟩
      · rw [H1.out.1]; exact own_less kk1 s1
      · rw [H1.out.2]; exact own_less kk2 (Nat.le_trans s1 s2)
      · intro j e e2
        have h1 := (L2.out j e).2
        have h2 := (O3.out.lt j e2).1
        omega
      · exact ((gb_below_none (gb_trans G1.out G13.out) (Nat.le_refl _)).setCell hbl _).setCell hbl _
end Go.Proofs.Ytcmlnokfjbglaaa
end

section
namespace Go.Proofs.Ytcmlnokfjbglaaa
open Go.ChangeShapes Go.WideShapes Go.ChangeAt Go.RowKit
set_option linter.unusedVariables false
set_option linter.unusedSimpArgs false

def towardG (s g lo hi : Int) : Int := if g < s then lo else if g > s then hi else 4
def rowTo (W a b : Int) : Int := towardG (a % W) (b % W) 3 1
def colTo (W a b : Int) : Int := towardG (a / W) (b / W) 0 2
def xyG (W a b : Int) : Int := if rowTo W a b = 4 then colTo W a b else rowTo W a b
def yxG (W a b : Int) : Int := if colTo W a b = 4 then rowTo W a b else colTo W a b
def westG (W a b : Int) : Int := if rowTo W a b = 3 then 3 else yxG W a b
def mixG (W a b : Int) : Int := if b % 2 = 0 then xyG W a b else yxG W a b

theorem same_place {W H a b : Int} (ha : hasG W H a = true) (hb : hasG W H b = true) : a = b ↔ a % W = b % W ∧ a / W = b / W := by
  obtain ⟨_, _, _, _, ea⟩ := place_of ha
  obtain ⟨_, _, _, _, eb⟩ := place_of hb
  exact ⟨fun h => by subst h; exact ⟨rfl, rfl⟩, fun ⟨h1, h2⟩ => by rw [← ea, ← eb, h1, h2]⟩
theorem xy_first {x u y v : Int} : (if towardG x u 3 1 = 4 then towardG y v 0 2 else towardG x u 3 1) = if x = u ∧ y = v then 4 else if x ≠ u then colPort x u else rowPort y v := by
  simp only [towardG, colPort, rowPort]
  split <;> split <;> (try split) <;> (try split) <;> (try split) <;> omega
theorem yx_first {x u y v : Int} : (if towardG y v 0 2 = 4 then towardG x u 3 1 else towardG y v 0 2) = if x = u ∧ y = v then 4 else if y = v then colPort x u else rowPort y v := by
  simp only [towardG, colPort, rowPort]
  split <;> split <;> (try split) <;> (try split) <;> (try split) <;> omega
theorem xy_std {W H a b : Int} (ha : hasG W H a = true) (hb : hasG W H b = true) : xyG W a b = stdPort W 1 a b := by
  refine (xy_first (x := a % W) (u := b % W) (y := a / W) (v := b / W)).trans ?_
  have hp := same_place ha hb
  by_cases h : a = b
  · rw [if_pos (hp.1 h), stdPort, if_pos h]
  · rw [if_neg (fun e => h (hp.2 e)), stdPort, if_neg h]
    simp [firstG, mixRule]
theorem yx_std {W H a b : Int} (ha : hasG W H a = true) (hb : hasG W H b = true) : yxG W a b = stdPort W 2 a b := by
  refine (yx_first (x := a % W) (u := b % W) (y := a / W) (v := b / W)).trans ?_
  have hp := same_place ha hb
  by_cases h : a = b
  · rw [if_pos (hp.1 h), stdPort, if_pos h]
  · rw [if_neg (fun e => h (hp.2 e)), stdPort, if_neg h]
    simp [firstG, mixRule]
theorem west_first {x u y v : Int} : (if towardG x u 3 1 = 3 then 3 else if towardG y v 0 2 = 4 then towardG x u 3 1 else towardG y v 0 2) = if x = u ∧ y = v then 4 else if u < x ∨ y = v then colPort x u else rowPort y v := by
  simp only [towardG, colPort, rowPort]
  repeat' split
  all_goals omega
theorem west_std {W H a b : Int} (ha : hasG W H a = true) (hb : hasG W H b = true) : westG W a b = stdPort W 3 a b := by
  refine (west_first (x := a % W) (u := b % W) (y := a / W) (v := b / W)).trans ?_
  have hp := same_place ha hb
  by_cases h : a = b
  · rw [if_pos (hp.1 h), stdPort, if_pos h]
  · rw [if_neg (fun e => h (hp.2 e)), stdPort, if_neg h]
    simp [firstG, mixRule]
theorem mix_std {W H a b : Int} (ha : hasG W H a = true) (hb : hasG W H b = true) : mixG W a b = stdPort W 4 a b := by
  unfold mixG
  have h1 := xy_std ha hb
  have h2 := yx_std ha hb
  by_cases h : b % 2 = 0
  · rw [if_pos h, h1]
    simp [stdPort, mixRule, h]
  · rw [if_neg h, h2]
    have : b % 2 = 1 := by omega
    simp [stdPort, mixRule, this]
end Go.Proofs.Ytcmlnokfjbglaaa
end

section
namespace Go.Proofs.Ytcmlnokfjbglaaa
open Go.ChangeShapes Go.WideShapes Go.ChangeAt Go.RowKit
set_option linter.unusedVariables false

theorem implToward (s g lo hi : Int) (w : World) :
    Calls Try.prog 147 #[.int .i64 s, .int .i64 g, .int .i64 lo, .int .i64 hi] w (RetI (towardG s g lo hi) none w) := by
  by_cases h1 : g < s
  · go_enter Try.func147, Try.ntmps147
    go_wp2_with fail
    go_ret
    exact ⟨ret_int64 (by simp [towardG, h1]), gb_refl _ _⟩
  · by_cases h2 : g > s
    all_goals
      go_enter Try.func147, Try.ntmps147
      go_wp2_with fail
      go_ret
      exact ⟨ret_int64 (by unfold towardG; first | rw [if_neg (Int.not_lt.2 h1), if_pos h2] | rw [if_neg (Int.not_lt.2 h1), if_neg (Int.not_lt.2 h2)]), gb_refl _ _⟩
theorem implTowardV (s g lo hi r : Int) (h : towardG s g lo hi = r) (w : World) :
    Calls Try.prog 147 #[.int .i64 s, .int .i64 g, .int .i64 lo, .int .i64 hi] w (RetI r none w) := h ▸ implToward s g lo hi w

theorem implInRow (W H a b r : Int) (ha : hasG W H a = true) (hb : hasG W H b = true) (hr : rowTo W a b = r) (w : World) :
    Calls Try.prog 142 #[.agg #[.int .i64 W, .int .i64 H], .int .i64 a, .int .i64 b] w (RetI r none w) := by
  obtain ⟨x, hx⟩ : ∃ x, a % W = x := ⟨_, rfl⟩
  obtain ⟨u, hu⟩ : ∃ u, b % W = u := ⟨_, rfl⟩
  obtain ⟨y, hy⟩ : ∃ y, a / W = y := ⟨_, rfl⟩
  obtain ⟨v, hv⟩ : ∃ v, b / W = v := ⟨_, rfl⟩
  have HA := Lib.hid (fun w => implPlace W H a x y ha hx hy w)
  have HB := Lib.hid (fun w => implPlace W H b u v hb hu hv w)
  have HT := Lib.hid (fun w => implTowardV x u 3 1 r (by rw [← hr, rowTo, hx, hu]) w)
  clear ha hb hr hx hu hy hv
  go_enter Try.func142, Try.ntmps142
  go_wp2_with fail
  refine (HA.out _).mono ?_
  rintro e w1 ⟨rfl, g1⟩
  have hb1 := boxi_blk g1
  have a0 : w1.cell? ⟨w.heap.size, 0, none⟩ = some (.int .i64 W) := hb1.cell 0
  have a1 : w1.cell? ⟨w.heap.size, 1, none⟩ = some (.int .i64 H) := hb1.cell 1
  have HG1 := Lib.hid g1
  clear g1 hb1
  go_wp2_with fail
  refine (HB.out _).mono ?_
  rintro e w2 ⟨rfl, g2⟩
  have HG2 := Lib.hid (gb_trans HG1.out g2)
  clear g2
  go_wp2_with fail
  refine (HT.out _).mono ?_
  rintro e w3 ⟨rfl, g3⟩
  have HG3 := Lib.hid (gb_trans HG2.out g3)
  clear g3
  go_wp2_with fail
  go_ret
  exact ⟨rfl, boxi_gb HG3.out⟩
theorem implInColumn (W H a b r : Int) (ha : hasG W H a = true) (hb : hasG W H b = true) (hr : colTo W a b = r) (w : World) :
    Calls Try.prog 143 #[.agg #[.int .i64 W, .int .i64 H], .int .i64 a, .int .i64 b] w (RetI r none w) := by
  obtain ⟨x, hx⟩ : ∃ x, a % W = x := ⟨_, rfl⟩
  obtain ⟨u, hu⟩ : ∃ u, b % W = u := ⟨_, rfl⟩
  obtain ⟨y, hy⟩ : ∃ y, a / W = y := ⟨_, rfl⟩
  obtain ⟨v, hv⟩ : ∃ v, b / W = v := ⟨_, rfl⟩
  have HA := Lib.hid (fun w => implPlace W H a x y ha hx hy w)
  have HB := Lib.hid (fun w => implPlace W H b u v hb hu hv w)
  have HT := Lib.hid (fun w => implTowardV y v 0 2 r (by rw [← hr, colTo, hy, hv]) w)
  clear ha hb hr hx hu hy hv
  go_enter Try.func143, Try.ntmps143
  go_wp2_with fail
  refine (HA.out _).mono ?_
  rintro e w1 ⟨rfl, g1⟩
  have hb1 := boxi_blk g1
  have a0 : w1.cell? ⟨w.heap.size, 0, none⟩ = some (.int .i64 W) := hb1.cell 0
  have a1 : w1.cell? ⟨w.heap.size, 1, none⟩ = some (.int .i64 H) := hb1.cell 1
  have HG1 := Lib.hid g1
  clear g1 hb1
  go_wp2_with fail
  refine (HB.out _).mono ?_
  rintro e w2 ⟨rfl, g2⟩
  have HG2 := Lib.hid (gb_trans HG1.out g2)
  clear g2
  go_wp2_with fail
  refine (HT.out _).mono ?_
  rintro e w3 ⟨rfl, g3⟩
  have HG3 := Lib.hid (gb_trans HG2.out g3)
  clear g3
  go_wp2_with fail
  go_ret
  exact ⟨rfl, boxi_gb HG3.out⟩

theorem implXY (W H a b r : Int) (ha : hasG W H a = true) (hb : hasG W H b = true) (hr : xyG W a b = r) (w : World) :
    Calls Try.prog 126 #[.agg #[.int .i64 W, .int .i64 H], .int .i64 a, .int .i64 b] w (RetI r none w) := by
  obtain ⟨p, hp⟩ : ∃ p, rowTo W a b = p := ⟨_, rfl⟩
  obtain ⟨q, hq⟩ : ∃ q, colTo W a b = q := ⟨_, rfl⟩
  unfold xyG at hr
  rw [hp, hq] at hr
  have HA := Lib.hid (fun w => implInRow W H a b p ha hb hp w)
  have HB := Lib.hid (fun w => implInColumn W H a b q ha hb hq w)
  clear ha hb hp hq
  by_cases h4 : p = 4
  · rw [if_pos h4] at hr
    have h5 : (p != 4) = false := by simpa using h4
    subst hr
    clear h4
    go_enter Try.func126, Try.ntmps126
    go_wp2_with fail
    refine (HA.out _).mono ?_
    rintro e w1 ⟨rfl, g1⟩
    have hb1 := boxi_blk g1
    have a0 : w1.cell? ⟨w.heap.size, 0, none⟩ = some (.int .i64 W) := hb1.cell 0
    have a1 : w1.cell? ⟨w.heap.size, 1, none⟩ = some (.int .i64 H) := hb1.cell 1
    have HG1 := Lib.hid g1
    clear g1 hb1
    go_wp2_with fail
    refine (HB.out _).mono ?_
    rintro e w2 ⟨rfl, g2⟩
    have HG2 := Lib.hid (gb_trans HG1.out g2)
    clear g2
    go_wp2_with fail
    go_ret
    exact ⟨rfl, boxi_gb HG2.out⟩
  · rw [if_neg h4] at hr
    have h5 : (p != 4) = true := by simpa using h4
    subst hr
    clear h4
    go_enter Try.func126, Try.ntmps126
    go_wp2_with fail
    refine (HA.out _).mono ?_
    rintro e w1 ⟨rfl, g1⟩
    have HG1 := Lib.hid g1
    clear g1
    go_wp2_with fail
    go_ret
    exact ⟨rfl, boxi_gb HG1.out⟩
theorem implYX (W H a b r : Int) (ha : hasG W H a = true) (hb : hasG W H b = true) (hr : yxG W a b = r) (w : World) :
    Calls Try.prog 127 #[.agg #[.int .i64 W, .int .i64 H], .int .i64 a, .int .i64 b] w (RetI r none w) := by
  obtain ⟨p, hp⟩ : ∃ p, colTo W a b = p := ⟨_, rfl⟩
  obtain ⟨q, hq⟩ : ∃ q, rowTo W a b = q := ⟨_, rfl⟩
  unfold yxG at hr
  rw [hp, hq] at hr
  have HA := Lib.hid (fun w => implInColumn W H a b p ha hb hp w)
  have HB := Lib.hid (fun w => implInRow W H a b q ha hb hq w)
  clear ha hb hp hq
  by_cases h4 : p = 4
  · rw [if_pos h4] at hr
    have h5 : (p != 4) = false := by simpa using h4
    subst hr
    clear h4
    go_enter Try.func127, Try.ntmps127
    go_wp2_with fail
    refine (HA.out _).mono ?_
    rintro e w1 ⟨rfl, g1⟩
    have hb1 := boxi_blk g1
    have a0 : w1.cell? ⟨w.heap.size, 0, none⟩ = some (.int .i64 W) := hb1.cell 0
    have a1 : w1.cell? ⟨w.heap.size, 1, none⟩ = some (.int .i64 H) := hb1.cell 1
    have HG1 := Lib.hid g1
    clear g1 hb1
    go_wp2_with fail
    refine (HB.out _).mono ?_
    rintro e w2 ⟨rfl, g2⟩
    have HG2 := Lib.hid (gb_trans HG1.out g2)
    clear g2
    go_wp2_with fail
    go_ret
    exact ⟨rfl, boxi_gb HG2.out⟩
  · rw [if_neg h4] at hr
    have h5 : (p != 4) = true := by simpa using h4
    subst hr
    clear h4
    go_enter Try.func127, Try.ntmps127
    go_wp2_with fail
    refine (HA.out _).mono ?_
    rintro e w1 ⟨rfl, g1⟩
    have HG1 := Lib.hid g1
    clear g1
    go_wp2_with fail
    go_ret
    exact ⟨rfl, boxi_gb HG1.out⟩
theorem implWest (W H a b r : Int) (ha : hasG W H a = true) (hb : hasG W H b = true) (hr : westG W a b = r) (w : World) :
    Calls Try.prog 128 #[.agg #[.int .i64 W, .int .i64 H], .int .i64 a, .int .i64 b] w (RetI r none w) := by
  obtain ⟨p, hp⟩ : ∃ p, rowTo W a b = p := ⟨_, rfl⟩
  obtain ⟨q, hq⟩ : ∃ q, yxG W a b = q := ⟨_, rfl⟩
  unfold westG at hr
  rw [hp, hq] at hr
  have HA := Lib.hid (fun w => implInRow W H a b p ha hb hp w)
  have HB := Lib.hid (fun w => implYX W H a b q ha hb hq w)
  clear ha hb hp hq
  by_cases h4 : p = 3
  · rw [if_pos h4] at hr
    have h5 : (p == 3) = true := by simpa using h4
    subst hr
    clear h4
    go_enter Try.func128, Try.ntmps128
    go_wp2_with fail
    refine (HA.out _).mono ?_
    rintro e w1 ⟨rfl, g1⟩
    have HG1 := Lib.hid g1
    clear g1
    go_wp2_with fail
    go_ret
    exact ⟨rfl, boxi_gb HG1.out⟩
  · rw [if_neg h4] at hr
    have h5 : (p == 3) = false := by simpa using h4
    subst hr
    clear h4
    go_enter Try.func128, Try.ntmps128
    go_wp2_with fail
    refine (HA.out _).mono ?_
    rintro e w1 ⟨rfl, g1⟩
    have hb1 := boxi_blk g1
    have a0 : w1.cell? ⟨w.heap.size, 0, none⟩ = some (.int .i64 W) := hb1.cell 0
    have a1 : w1.cell? ⟨w.heap.size, 1, none⟩ = some (.int .i64 H) := hb1.cell 1
    have HG1 := Lib.hid g1
    clear g1 hb1
    go_wp2_with fail
    refine (HB.out _).mono ?_
    rintro e w2 ⟨rfl, g2⟩
    have HG2 := Lib.hid (gb_trans HG1.out g2)
    clear g2
    go_wp2_with fail
    go_ret
    exact ⟨rfl, boxi_gb HG2.out⟩
theorem implMixed (W H a b r : Int) (ha : hasG W H a = true) (hb : hasG W H b = true) (hr : mixG W a b = r) (w : World) :
    Calls Try.prog 129 #[.agg #[.int .i64 W, .int .i64 H], .int .i64 a, .int .i64 b] w (RetI r none w) := by
  obtain ⟨p, hp⟩ : ∃ p, xyG W a b = p := ⟨_, rfl⟩
  obtain ⟨q, hq⟩ : ∃ q, yxG W a b = q := ⟨_, rfl⟩
  unfold mixG at hr
  rw [hp, hq] at hr
  have HA := Lib.hid (fun w => implXY W H a b p ha hb hp w)
  have HB := Lib.hid (fun w => implYX W H a b q ha hb hq w)
  obtain ⟨b0, b1⟩ := hasG_le hb
  have hm : b.tmod 2 = b % 2 := by rw [Int.tmod_eq_emod_of_nonneg b0]
  clear ha hb hp hq
  rcases (show b % 2 = 0 ∨ b % 2 = 1 by omega) with h4 | h4
  · rw [if_pos h4] at hr
    rw [h4] at hm
    subst hr
    clear h4
    go_enter Try.func129, Try.ntmps129
    go_wp2_with fail
    refine (HA.out _).mono ?_
    rintro e w1 ⟨rfl, g1⟩
    have HG1 := Lib.hid g1
    clear g1
    go_wp2_with fail
    go_ret
    exact ⟨rfl, boxi_gb HG1.out⟩
  · rw [if_neg (by omega)] at hr
    rw [h4] at hm
    subst hr
    clear h4
    go_enter Try.func129, Try.ntmps129
    go_wp2_with fail
    refine (HB.out _).mono ?_
    rintro e w1 ⟨rfl, g1⟩
    have HG1 := Lib.hid g1
    clear g1
    go_wp2_with fail
    go_ret
    exact ⟨rfl, boxi_gb HG1.out⟩
end Go.Proofs.Ytcmlnokfjbglaaa
end

section
namespace Go.Proofs.Ytcmlnokfjbglaaa
open Go.ChangeShapes Go.WideShapes Go.ChangeAt Go.RowKit
set_option linter.unusedVariables false

theorem gb_row {w : World} {g : Nat} {old cs : Array Value} {t : TypeId} (h : Blk w g t old) : Blk (w.setRow g cs) g t cs ∧ w.grownBy (w.setRow g cs) (some g) := by
  refine ⟨setRow_heap w g old cs t (0, 0) h, rfl, rfl, rfl, ?_, fun i hi hne => ?_⟩
  · simp [World.setRow]
  · have hne' : g ≠ i := fun e => hne (by rw [e])
    simp [World.setRow, Array.getElem?_modify, hne']
theorem gb_fresh {a b c : World} {g : Nat} (h : a.grownBy b none) (k : b.grownBy c (some g)) (hg : a.heap.size ≤ g) : a.grownBy c none :=
  ⟨k.os.trans h.os, k.tape.trans h.tape, k.output.trans h.output, Nat.le_trans h.size k.size, fun i hi hne => (k.block i (Nat.lt_of_lt_of_le hi h.size) (fun e => by cases e; omega)).trans (h.block i hi hne)⟩

/-- A rule as two cells: its name and its function. -/
def ruleName (r : Int) : ByteArray := if r = 1 then ⟨#[120, 121]⟩ else if r = 2 then ⟨#[121, 120]⟩ else if r = 3 then ⟨#[119, 101, 115, 116]⟩ else if r = 4 then ⟨#[109, 105, 120, 101, 100]⟩ else ⟨#[]⟩
def ruleFn (r : Int) : Value := if r = 1 then .func (.func 126) #[] #[] else if r = 2 then .func (.func 127) #[] #[] else if r = 3 then .func (.func 128) #[] #[] else if r = 4 then .func (.func 129) #[] #[] else .nilFunc
def ruleC (r : Int) : Array Value := #[.string (ruleName r), ruleFn r]
def rulesC : Array Value := #[.string (ruleName 0), ruleFn 0, .string (ruleName 1), ruleFn 1, .string (ruleName 2), ruleFn 2, .string (ruleName 3), ruleFn 3, .string (ruleName 4), ruleFn 4]
theorem rules_info : (Try.prog.info? 145).map (·.size) = some 10 := by kernel_rfl
theorem rule_info : (Try.prog.info? 130).map (·.size) = some 2 := by kernel_rfl

theorem rules_one : rulesC.all (·.oneCell') = true := by simp [rulesC, ruleFn, Value.oneCell']
theorem rule_one (r : Int) : (ruleC r).all (·.oneCell') = true := by
  simp only [ruleC, ruleFn]
  repeat' split
  all_goals simp [Value.oneCell']

theorem implRules (w : World) :
    Calls Try.prog 112 #[] w fun e w' => e = .returned (.agg rulesC) ∧ w.grownBy w' none := by
  go_enter Try.func112, Try.ntmps112
  go_wp2_with (refine wpList_store_row (P := Try.prog) rfl 145 (.tmp 0) (.tmp 5) rfl w.heap.size rulesC rfl rfl 145 _ (Blk.new _ _ _) rules_info rfl rules_one ?_)
  obtain ⟨b1, g1⟩ := gb_row (cs := rulesC) (Blk.new w 145 (#[.string ⟨#[]⟩, .nilFunc, .string ⟨#[]⟩, .nilFunc, .string ⟨#[]⟩, .nilFunc, .string ⟨#[]⟩, .nilFunc, .string ⟨#[]⟩, .nilFunc]))
  exact bodyPost_ret (v := .agg rulesC) (results_cell_row Try.results112 _ _ w.heap.size _ rulesC (0, 0) _ rfl b1 Try.underlying145 rfl rules_info) rfl ⟨rfl, gb_fresh (gb_alloc (gb_refl _ _) _) g1 (Nat.le_refl _)⟩

theorem index_rules (r : Int) (h1 : 1 ≤ r) (h4 : r ≤ 4) (w : World) :
    (Instr.index 145 (.agg rulesC) (.int .i64 r)).run Try.prog w = .ok (.agg (ruleC r)) w := by
  have hr : r = 1 ∨ r = 2 ∨ r = 3 ∨ r = 4 := by omega
  rcases hr with rfl | rfl | rfl | rfl
  all_goals simp [Instr.index, run_underlying Try.underlying145, asIntOf, part, go_sem, rulesC, ruleC]
theorem wpList_indexRule {ops : Array Oper} {rest : List Oper} {op : Oper} {a : Act} {w : World} {Q : Exit → Act → World → Prop} (hgd : op.guard = none) (x y : Operand) (ho : op.op = .index 145 x y)
    (r : Int) (hx : a.eval x = .agg rulesC) (hy : a.eval y = .int .i64 r) (h1 : 1 ≤ r) (h4 : r ≤ 4)
    (h : wpList Try.prog ops Q rest (a.put op.dst (.agg (ruleC r))) w) : wpList Try.prog ops Q (op :: rest) a w :=
  wpList_plain hgd fun _ hK => by
    unfold Oper.wp execOp
    simp only [ho, hx, hy, index_rules r h1 h4, Sem.run_bind, Result.andThen_ok]
    exact hK _ _ h
theorem ruleC_out {r : Int} (h : r < 1 ∨ 4 < r) : ruleC r = #[.string ⟨#[]⟩, .nilFunc] := by
  have a1 : r ≠ 1 := by omega
  have a2 : r ≠ 2 := by omega
  have a3 : r ≠ 3 := by omega
  have a4 : r ≠ 4 := by omega
  simp [ruleC, ruleName, ruleFn, a1, a2, a3, a4]
theorem ret_rule {tmps : Array Value} {w : World} {g : Nat} {cs : Array Value} {b : Bool} (hb : Blk w g 130 cs) (hs : (Try.prog.info? 130).map (·.size) = some cs.size)
    (hp : tmps.getD 2 undef = .pointer (some ⟨g, 0, none⟩)) (hq : tmps.getD 3 undef = .bool b) : (results Try.f92 tmps).run Try.prog w = .ok (.tuple #[.agg cs, .bool b]) w := by
  rw [results_cell_tmp Try.results92, hp, hq]
  simp only [asAddr, Sem.run_pure, Result.andThen_ok, run_loadVar_row w g _ _ cs (0, 0) _ hb Try.underlying130 rfl hs]
/-- The rule that was found, and whether there is one. -/
theorem implFindRule (r : Int) (b : Bool) (hb : decide (1 ≤ r ∧ r ≤ 4) = b) (w : World) :
    Calls Try.prog 92 #[.int .i64 r] w fun e w' => e = .returned (.tuple #[.agg (ruleC r), .bool b]) ∧ w.grownBy w' none := by
  have HZ := Lib.hid (Blk.new w 130 #[.string ⟨#[]⟩, .nilFunc])
  by_cases h1 : r < 1
  · have HC := Lib.hid (ruleC_out (.inl h1))
    obtain rfl : false = b := by rw [← hb]; simp; omega
    clear hb
    go_enter Try.func92, Try.ntmps92
    go_wp2_with (refine wpList_store_row (P := Try.prog) rfl 130 (.tmp 2) (.tmp 10) rfl w.heap.size #[.string ⟨#[]⟩, .nilFunc] rfl rfl 130 _ HZ.out rule_info rfl (by simp [Value.oneCell']) ?_)
    obtain ⟨b1, g1⟩ := gb_row (cs := #[.string ⟨#[]⟩, .nilFunc]) HZ.out
    rw [HC.out]
    exact bodyPost_ret (v := .tuple #[.agg #[.string ⟨#[]⟩, .nilFunc], .bool false]) (ret_rule b1 rule_info rfl rfl) rfl ⟨rfl, gb_fresh (gb_alloc (gb_refl _ _) _) g1 (Nat.le_refl _)⟩
  · by_cases h4 : r > 4
    · have HC := Lib.hid (ruleC_out (.inr h4))
      obtain rfl : false = b := by rw [← hb]; simp; omega
      clear hb
      go_enter Try.func92, Try.ntmps92
      go_wp2_with (refine wpList_store_row (P := Try.prog) rfl 130 (.tmp 2) (.tmp 10) rfl w.heap.size #[.string ⟨#[]⟩, .nilFunc] rfl rfl 130 _ HZ.out rule_info rfl (by simp [Value.oneCell']) ?_)
      obtain ⟨b1, g1⟩ := gb_row (cs := #[.string ⟨#[]⟩, .nilFunc]) HZ.out
      rw [HC.out]
      exact bodyPost_ret (v := .tuple #[.agg #[.string ⟨#[]⟩, .nilFunc], .bool false]) (ret_rule b1 rule_info rfl rfl) rfl ⟨rfl, gb_fresh (gb_alloc (gb_refl _ _) _) g1 (Nat.le_refl _)⟩
    · have h1' : 1 ≤ r := by omega
      have h4' : r ≤ 4 := by omega
      obtain rfl : true = b := by rw [← hb]; simp; omega
      clear hb
      go_enter Try.func92, Try.ntmps92
      go_wp2_with fail
      refine (implRules _).mono ?_
      rintro e w1 ⟨rfl, g1⟩
      have HB1 := Lib.hid (boxi_blk g1)
      have HG1 := Lib.hid (boxi_gb g1)
      clear g1
      go_wp2_with (first | (refine wpList_indexRule rfl (.tmp 11) (.tmp 12) rfl r rfl rfl h1' h4' ?_) | (refine wpList_store_row (P := Try.prog) rfl 130 (.tmp 2) (.tmp 13) rfl w.heap.size (ruleC r) rfl rfl 130 _ HB1.out rule_info rfl (rule_one r) ?_))
      obtain ⟨b2, g2⟩ := gb_row (cs := ruleC r) HB1.out
      exact bodyPost_ret (v := .tuple #[.agg (ruleC r), .bool true]) (ret_rule b2 rule_info rfl rfl) rfl ⟨rfl, gb_fresh HG1.out g2 (Nat.le_refl _)⟩
end Go.Proofs.Ytcmlnokfjbglaaa
end

section
namespace Go.Proofs.Ytcmlnokfjbglaaa
open Go.ChangeShapes Go.WideShapes Go.ChangeAt Go.RowKit
set_option linter.unusedVariables false

theorem wpList_storeRule {ops : Array Oper} {rest : List Oper} {op : Oper} {a : Act} {w : World} {Q : Exit → Act → World → Prop} (hgd : op.guard = none) (x y : Operand) (ho : op.op = .store 130 x y)
    (g : Nat) (old : Array Value) (s : ByteArray) (F : Value) (hF : (#[.string s, F] : Array Value).all (·.oneCell') = true) (hx : a.eval x = .pointer (some ⟨g, 0, none⟩)) (hy : a.eval y = .agg #[.string s, F]) (hb : Blk w g 130 old) (hl : old.size = 2)
    (h : ∀ w', Blk w' g 130 #[.string s, F] → w.grownBy w' (some g) → wpList Try.prog ops Q rest (a.put op.dst undef) w') : wpList Try.prog ops Q (op :: rest) a w :=
  wpList_store_row (P := Try.prog) hgd _ x y ho g #[.string s, F] hx hy _ old hb rule_info hl hF (h _ (gb_row hb).1 (gb_row hb).2)

theorem implHasNodeV (W H n : Int) (b : Bool) (h : hasG W H n = b) (w : World) :
    Calls Try.prog 138 #[.agg #[.int .i64 W, .int .i64 H], .int .i64 n] w (RetB b w) := h ▸ implHasNode W H n w
end Go.Proofs.Ytcmlnokfjbglaaa
end

section
namespace Go.Proofs.Ytcmlnokfjbglaaa
open Go.ChangeShapes Go.WideShapes Go.ChangeAt Go.RowKit
set_option linter.unusedVariables false

/-- The function of a rule that exists can be called and returns the port. -/
theorem ruleFn_calls {r : Int} (h1 : 1 ≤ r) (h4 : r ≤ 4) : ∃ f, ruleFn r = .func (.func f) #[] #[] ∧ (∀ args w, (callFunc f args).run Try.prog w = .ok (.enter f args) w) ∧
    ∀ (W H a b : Int), hasG W H a = true → hasG W H b = true → ∀ w, Calls Try.prog f #[.agg #[.int .i64 W, .int .i64 H], .int .i64 a, .int .i64 b] w (RetI (stdPort W r a b) none w) := by
  have hr : r = 1 ∨ r = 2 ∨ r = 3 ∨ r = 4 := by omega
  rcases hr with rfl | rfl | rfl | rfl
  · exact ⟨_, rfl, Try.call126, fun W H a b ha hb w => implXY W H a b _ ha hb (xy_std ha hb) w⟩
  · exact ⟨_, rfl, Try.call127, fun W H a b ha hb w => implYX W H a b _ ha hb (yx_std ha hb) w⟩
  · exact ⟨_, rfl, Try.call128, fun W H a b ha hb w => implWest W H a b _ ha hb (west_std ha hb) w⟩
  · exact ⟨_, rfl, Try.call129, fun W H a b ha hb w => implMixed W H a b _ ha hb (mix_std ha hb) w⟩

theorem implGridOkV (W H : Int) (b : Bool) (h : okG W H = b) (w : World) :
    Calls Try.prog 93 #[.agg #[.int .i64 W, .int .i64 H]] w (RetB b w) := h ▸ implGridOk W H w
theorem implNodeCountV2 (W H k : Int) (h : countG W H = k) (w : World) :
    Calls Try.prog 85 #[.agg #[.int .i64 W, .int .i64 H]] w (RetI k none w) := h ▸ implNodeCount W H w

/-- The call's own blocks: the grid, the result, the rule; and the ports so far. -/
def StdAt (W H r : Int) (s : ByteArray) (F : Value) (g : Nat) (w : World) (k : Nat) (v : Value) (wr : World) : Prop :=
  Blk wr w.heap.size 27 #[.int .i64 W, .int .i64 H] ∧ Blk wr (w.heap.size + 1) 32 #[.slice none 0 0] ∧ Blk wr g 130 #[.string s, F] ∧
  wr.ownsRow (g + 1) 3 1 v k (intsV (stdTo W H r k)) ∧ Below w.heap.size w wr

theorem StdAt.app {W H r p : Int} {s : ByteArray} {F : Value} {g : Nat} {w wr w5 : World} {k : Nat} {v v' : Value} {o : Obj} (h : StdAt W H r s F g w k v wr) (hgw : w.heap.size + 2 ≤ g)
    (hg : (wr.alloc o).grownBy w5 v.ownBlock) (ho : w5.ownsRow (g + 1) 3 1 v' (k + 1) (intsV (stdTo W H r k) ++ [.int .i64 p])) (hp : stdTo W H r (k + 1) = stdTo W H r k ++ [p]) : StdAt W H r s F g w (k + 1) v' w5 := by
  obtain ⟨h0, h1, h2, hown, hb⟩ := h
  have hne : ∀ j, j < g + 1 → some j ≠ v.ownBlock := fun j hj e => by have := (hown.lt j e.symm).1; omega
  refine ⟨(h0.alloc o).grown hg (hne _ (by omega)), (h1.alloc o).grown hg (hne _ (by omega)), (h2.alloc o).grown hg (hne _ (by omega)), ?_, ?_⟩
  · rw [hp, intsV_append]; exact ho
  · exact (hb.alloc hb.size o).grown hg (by have := hb.size; simp; omega) (fun j hj => by have := (hown.lt j hj).1; omega)
theorem StdAt.none {W H r : Int} {s : ByteArray} {F : Value} {g : Nat} {w wr w5 : World} {k : Nat} {v : Value} (h : StdAt W H r s F g w k v wr) (hg : wr.grownBy w5 none) : StdAt W H r s F g w k v w5 :=
  ⟨h.1.grown hg (by simp), h.2.1.grown hg (by simp), h.2.2.1.grown hg (by simp), own_none h.2.2.2.1 hg, below_gb h.2.2.2.2 (Nat.le_refl _) hg⟩
theorem stdTo_pair {W H r : Int} {x y k : Nat} (hk : (k : Int) = countG W H) (hy : y < k) : stdTo W H r (x * k + y + 1) = stdTo W H r (x * k + y) ++ [stdPort W r (x : Int) (y : Int)] := by
  have e1 : ((x * k + y : Nat) : Int) / (k : Int) = x := by rw [← Int.natCast_ediv, pair_div hy]
  have e2 : ((x * k + y : Nat) : Int) % (k : Int) = y := by rw [← Int.natCast_emod, pair_mod hy]
  rw [stdTo_succ, ← hk, e1, e2]
theorem has_cnt {W H : Int} {x k : Nat} (hk : (k : Int) = countG W H) (hx : x < k) : hasG W H (x : Int) = true := hasG_iff.2 ⟨by omega, by omega⟩

theorem implStdTab (W H r : Int) (w : World) :
    Calls Try.prog 59 #[.agg #[.int .i64 W, .int .i64 H], .int .i64 r] w (RetTab (stdRes W H r) (stdOk W H r) w) := by
  obtain ⟨P, hP⟩ : ∃ P, stdRes W H r = P := ⟨_, rfl⟩
  obtain ⟨b, hb⟩ : ∃ b, stdOk W H r = b := ⟨_, rfl⟩
  rw [hP, hb]
  obtain ⟨s, hs⟩ : ∃ s, ruleName r = s := ⟨_, rfl⟩
  obtain ⟨i0, hi, hz0, hz1, hz2⟩ := info_parts info_int
  have hbk0 := (Blk.new w 27 #[.int .i64 W, .int .i64 H]).alloc (.cells #[.slice none 0 0] 32)
  have hbk1 := Blk.new (w.alloc (.cells #[.int .i64 W, .int .i64 H] 27)) 32 #[.slice none 0 0]
  rw [alloc_size] at hbk1
  have K0 := Lib.hid hbk0
  have K1 := Lib.hid hbk1
  have KG := Lib.hid (gb_alloc (gb_alloc (gb_refl w none) (.cells #[.int .i64 W, .int .i64 H] 27)) (.cells #[.slice none 0 0] 32))
  clear hbk0 hbk1
  cases hr : decide (1 ≤ r ∧ r ≤ 4) with
  | false =>
    have HF := Lib.hid (fun w => implFindRule r false hr w)
    obtain ⟨F, hF⟩ : ∃ F, ruleFn r = F := ⟨_, rfl⟩
    have HR : Hid (ruleC r = #[.string s, F]) := Lib.hid (by rw [ruleC, hF, hs])
    have H1 : Hid ((#[.string s, F] : Array Value).all (·.oneCell') = true) := Lib.hid (by rw [← HR.out]; exact rule_one r)
    have hB : b = false := by rw [← hb, stdOk, hr]; simp
    have hPP : P = [] := by rw [← hP, stdRes, hb, hB]; rfl
    subst hB
    subst hPP
    clear hF hr hs hb hP
    go_enter Try.func59, Try.ntmps59
    go_wp2_with fail
    refine (HF.out _).mono ?_
    rintro e w1 ⟨rfl, g1⟩
    have HB0 := Lib.hid ((K0.out.grown g1 (by simp)).alloc (.cells #[.string ⟨#[]⟩, .nilFunc] 130))
    have HB1 := Lib.hid ((K1.out.grown g1 (by simp)).alloc (.cells #[.string ⟨#[]⟩, .nilFunc] 130))
    have HG1 := Lib.hid (gb_trans KG.out g1)
    have HNE : Hid (w.heap.size + 2 ≤ w1.heap.size) := Lib.hid (by have := g1.size; rw [alloc_size, alloc_size] at this; exact this)
    clear g1
    rw [HR.out]
    have HZ := Lib.hid (Blk.new w1 130 #[.string ⟨#[]⟩, .nilFunc])
    go_wp2_with (refine wpList_storeRule rfl (.tmp 6) (.tmp 15) rfl w1.heap.size _ s F H1.out rfl rfl HZ.out rfl ?_
                 intro w2 hb2 hg2
                 have hb3 := HB0.out.grown hg2 (fun e => by have := Option.some.inj e; have := HNE.out; omega)
                 have hb4 := HB1.out.grown hg2 (fun e => by have := Option.some.inj e; have := HNE.out; omega)
                 have c0 : w2.cell? ⟨w.heap.size, 0, none⟩ = some (.int .i64 W) := hb3.cell 0
                 have c1 : w2.cell? ⟨w.heap.size, 1, none⟩ = some (.int .i64 H) := hb3.cell 1
                 have c2 : w2.cell? ⟨w.heap.size + 1, 0, none⟩ = some (.slice none 0 0) := hb4.cell 0
                 have c3 := hb4.frozen 0
                 have HB4 := Lib.hid hb4
                 have HG2 := Lib.hid (gb_fresh (gb_alloc HG1.out _) hg2 HG1.out.size)
                 clear hg2 hb2 hb3 hb4)
    have h1 := (HB4.out.set_ 0 (.slice none 0 0)).cell 0
    simp at h1
    refine bodyPost_ret (v := .tuple #[.agg #[.slice none 0 0], .bool false]) (by simp [results, Try.results59, go_sem, h1]) rfl ⟨_, rfl, World.ownsRow_nil _ _ _ _, ?_⟩
    exact gb_below_none (gb_setCell HG2.out (.inr (by show w.heap.size ≤ w.heap.size + 1; omega)) _) (Nat.le_refl _)
  | true =>
    have HF := Lib.hid (fun w => implFindRule r true hr w)
    cases ho : okG W H with
    | false =>
      obtain ⟨F, hF⟩ : ∃ F, ruleFn r = F := ⟨_, rfl⟩
      have HR : Hid (ruleC r = #[.string s, F]) := Lib.hid (by rw [ruleC, hF, hs])
      have H1 : Hid ((#[.string s, F] : Array Value).all (·.oneCell') = true) := Lib.hid (by rw [← HR.out]; exact rule_one r)
      have hB : b = false := by rw [← hb, stdOk, ho, hr]; simp
      have hPP : P = [] := by rw [← hP, stdRes, hb, hB]; rfl
      subst hB
      subst hPP
      have HO := Lib.hid (fun w => implGridOkV W H false ho w)
      clear hF hr hs hb hP ho
      go_enter Try.func59, Try.ntmps59
      go_wp2_with fail
      refine (HF.out _).mono ?_
      rintro e w1 ⟨rfl, g1⟩
      have HB0 := Lib.hid ((K0.out.grown g1 (by simp)).alloc (.cells #[.string ⟨#[]⟩, .nilFunc] 130))
      have HB1 := Lib.hid ((K1.out.grown g1 (by simp)).alloc (.cells #[.string ⟨#[]⟩, .nilFunc] 130))
      have HG1 := Lib.hid (gb_trans KG.out g1)
      have HNE : Hid (w.heap.size + 2 ≤ w1.heap.size) := Lib.hid (by have := g1.size; rw [alloc_size, alloc_size] at this; exact this)
      clear g1
      rw [HR.out]
      have HZ := Lib.hid (Blk.new w1 130 #[.string ⟨#[]⟩, .nilFunc])
      go_wp2_with (refine wpList_storeRule rfl (.tmp 6) (.tmp 15) rfl w1.heap.size _ s F H1.out rfl rfl HZ.out rfl ?_
                   intro w2 hb2 hg2
                   have hb3 := HB0.out.grown hg2 (fun e => by have := Option.some.inj e; have := HNE.out; omega)
                   have hb4 := HB1.out.grown hg2 (fun e => by have := Option.some.inj e; have := HNE.out; omega)
                   have c0 : w2.cell? ⟨w.heap.size, 0, none⟩ = some (.int .i64 W) := hb3.cell 0
                   have c1 : w2.cell? ⟨w.heap.size, 1, none⟩ = some (.int .i64 H) := hb3.cell 1
                   have c2 : w2.cell? ⟨w.heap.size + 1, 0, none⟩ = some (.slice none 0 0) := hb4.cell 0
                   have c3 := hb4.frozen 0
                   have HB4 := Lib.hid hb4
                   have HG2 := Lib.hid (gb_fresh (gb_alloc HG1.out _) hg2 HG1.out.size)
                   clear hg2 hb2 hb3 hb4)
      refine (HO.out _).mono ?_
      rintro e w3 ⟨rfl, g3⟩
      have hb5 := HB4.out.grown g3 (by simp)
      have d2 : w3.cell? ⟨w.heap.size + 1, 0, none⟩ = some (.slice none 0 0) := hb5.cell 0
      have d3 := hb5.frozen 0
      have HB5 := Lib.hid hb5
      have HG3 := Lib.hid (gb_trans HG2.out g3)
      clear g3 hb5
      go_wp2_with fail
      have h1 := (HB5.out.set_ 0 (.slice none 0 0)).cell 0
      simp at h1
      refine bodyPost_ret (v := .tuple #[.agg #[.slice none 0 0], .bool false]) (by simp [results, Try.results59, go_sem, h1]) rfl ⟨_, rfl, World.ownsRow_nil _ _ _ _, ?_⟩
      exact gb_below_none (gb_setCell HG3.out (.inr (by show w.heap.size ≤ w.heap.size + 1; omega)) _) (Nat.le_refl _)
    | true =>
      obtain ⟨f, hf, hgo, hcall⟩ := ruleFn_calls (r := r) (by simp at hr; omega) (by simp at hr; omega)
      have HR : Hid (ruleC r = #[.string s, .func (.func f) #[] #[]]) := Lib.hid (by rw [ruleC, hf, hs])
      have hB : b = true := by rw [← hb, stdOk, ho, hr]; rfl
      have hPP : P = stdTab W H r := by rw [← hP, stdRes, hb, hB]; rfl
      subst hB
      obtain ⟨k, hk⟩ : ∃ k, cntN W H = k := ⟨_, rfl⟩
      have hki := cntN_int W H
      have hk1 := cntN_le W H
      rw [hk] at hki hk1
      have HO := Lib.hid (fun w => implGridOkV W H true ho w)
      have HN := Lib.hid (fun w => implNodeCountV2 W H (k : Int) hki.symm w)
      have HC := Lib.hid (fun a b ha hb w => hcall W H a b ha hb w)
      have HK := Lib.hid hk
      have HPP := Lib.hid hPP
      clear hcall hf hr hs ho hb hP hki hk hPP
      go_enter Try.func59, Try.ntmps59
      go_wp2_with fail
      refine (HF.out _).mono ?_
      rintro e w1 ⟨rfl, g1⟩
      have hb0 := (K0.out.grown g1 (by simp)).alloc (.cells #[.string ⟨#[]⟩, .nilFunc] 130)
      have hb1 := (K1.out.grown g1 (by simp)).alloc (.cells #[.string ⟨#[]⟩, .nilFunc] 130)
      have HB0 := Lib.hid hb0
      have HB1 := Lib.hid hb1
      have HG1 := Lib.hid (gb_trans KG.out g1)
      have HNE : Hid (w.heap.size + 2 ≤ w1.heap.size) := Lib.hid (by have := g1.size; rw [alloc_size, alloc_size] at this; exact this)
      clear g1 hb0 hb1
      rw [HR.out]
      have HZ := Lib.hid (Blk.new w1 130 #[.string ⟨#[]⟩, .nilFunc])
      go_wp2_with (refine wpList_storeRule rfl (.tmp 6) (.tmp 15) rfl w1.heap.size _ s (.func (.func f) #[] #[]) (by simp [Value.oneCell']) rfl rfl HZ.out rfl ?_
                   intro w2 hb2 hg2
                   have hb3 := HB0.out.grown hg2 (fun e => by have := Option.some.inj e; have := HNE.out; omega)
                   have hb4 := HB1.out.grown hg2 (fun e => by have := Option.some.inj e; have := HNE.out; omega)
                   have c0 : w2.cell? ⟨w.heap.size, 0, none⟩ = some (.int .i64 W) := hb3.cell 0
                   have c1 : w2.cell? ⟨w.heap.size, 1, none⟩ = some (.int .i64 H) := hb3.cell 1
                   have HB3 := Lib.hid hb3
                   have HB4 := Lib.hid hb4
                   have HB2 := Lib.hid hb2
                   have HG2 := Lib.hid (gb_fresh (gb_alloc HG1.out _) hg2 HG1.out.size)
                   clear hg2 hb2 hb3 hb4)
      refine (HO.out _).mono ?_
      rintro e w3 ⟨rfl, g3⟩
      have hb0 := HB3.out.grown g3 (by simp)
      have c0 : w3.cell? ⟨w.heap.size, 0, none⟩ = some (.int .i64 W) := hb0.cell 0
      have c1 : w3.cell? ⟨w.heap.size, 1, none⟩ = some (.int .i64 H) := hb0.cell 1
      have HB5 := Lib.hid hb0
      have HB6 := Lib.hid (HB4.out.grown g3 (by simp))
      have HB7 := Lib.hid (HB2.out.grown g3 (by simp))
      have HG3 := Lib.hid (gb_trans HG2.out g3)
      clear g3 hb0
      go_wp2_with fail
      refine (HN.out _).mono ?_
      rintro e w4 ⟨rfl, g4⟩
      have hb0 := HB5.out.grown g4 (by simp)
      have HB8 := Lib.hid hb0
      have HB9 := Lib.hid (HB6.out.grown g4 (by simp))
      have HB10 := Lib.hid (HB7.out.grown g4 (by simp))
      have HG4 := Lib.hid (gb_trans HG3.out g4)
      clear g4 hb0
      have HSZ : Hid (w1.heap.size + 1 ≤ w4.heap.size) := Lib.hid (by have := HB10.out.lt; omega)
      have hkk : k * k ≤ 256 := Nat.mul_le_mul hk1 hk1
      have hmul : wrap64 ((k : Int) * (k : Int)) = ((k * k : Nat) : Int) := by rw [← Int.natCast_mul]; exact IntWalk.wrap64_in _ (by omega)
      go_wp2_with (at_make; refine wpList_make_own _ rfl _ _ 28 rfl (w1.heap.size + 1) 3 i0 (.int .i64 0) 1 Try.underlying28 hi hz0 hz1 .i64 .i64 _ (k * k) rfl rfl (by omega) (by rw [hz2]; omega) (by unfold maxLen; omega) HSZ.out ?_; intro w5 hown5 hgrow5
                   have HX := Lib.hid (show StdAt W H r s (.func (.func f) #[] #[]) w1.heap.size w 0 _ w5 from ⟨HB8.out.grown hgrow5 (by simp), HB9.out.grown hgrow5 (by simp), HB10.out.grown hgrow5 (by simp), hown5, gb_below_none (gb_trans HG4.out hgrow5) (Nat.le_refl _)⟩); clear hown5 hgrow5)
      obtain ⟨g, hg⟩ : ∃ g, w1.heap.size = g := ⟨_, rfl⟩
      rw [hg] at HX HNE
      (try rw [hg])
      clear hg hmul
      have HKI : Hid ((k : Int) = countG W H) := Lib.hid (by rw [← HK.out, cntN_int])
      go_loopw [9, 32] (fun v i wr => ∃ x : Nat, i = .int .i64 (x : Int) ∧ x ≤ k ∧ StdAt W H r s (.func (.func f) #[] #[]) g w (x * k) v wr) (fun _ i _ => 17 - (intOf i).toNat)
      case atStart => exact ⟨0, rfl, Nat.zero_le _, by rw [Nat.zero_mul]; exact HX.out⟩
      case round =>
        obtain ⟨x, rfl, hxk, hst⟩ := hrel
        have HS0 := Lib.hid hst
        clear hst
        by_cases hlt : x < k
        · have HXK := Lib.hid hlt
          go_wp2_with fail
          go_loopw [9, 36] (fun v i wr => ∃ y : Nat, i = .int .i64 (y : Int) ∧ y ≤ k ∧ StdAt W H r s (.func (.func f) #[] #[]) g w (x * k + y) v wr) (fun _ i _ => 17 - (intOf i).toNat)
          case atStart => exact ⟨0, rfl, Nat.zero_le _, HS0.out⟩
          case round =>
            obtain ⟨y, rfl, hyk, hst⟩ := hrel
            have HS1 := Lib.hid hst
            by_cases hlt2 : y < k
            · have a0 : wr.cell? ⟨w.heap.size, 0, none⟩ = some (.int .i64 W) := hst.1.cell 0
              have a1 : wr.cell? ⟨w.heap.size, 1, none⟩ = some (.int .i64 H) := hst.1.cell 1
              have a2 : wr.cell? ⟨g, 1, none⟩ = some (.func (.func f) #[] #[]) := hst.2.2.1.cell 1
              have hlen : x * k + y < k * k := by
                have h1 : (x + 1) * k ≤ k * k := Nat.mul_le_mul_right k HXK.out
                rw [Nat.add_mul, Nat.one_mul] at h1
                omega
              have hax := has_cnt HKI.out HXK.out
              have hay := has_cnt HKI.out hlt2
              have HE := Lib.hid (stdTo_pair (r := r) (x := x) HKI.out hlt2)
              clear hst
              go_wp2_with fail
              refine (HC.out x y hax hay _).mono ?_
              rintro e w6 ⟨rfl, g6⟩
              have hs6 := HS1.out.none g6
              have HS6 := Lib.hid hs6
              have hown6 := hs6.2.2.2.1
              have hsz6 : g + 1 ≤ w6.heap.size := hs6.2.2.1.lt
              have b3' := Lib.hid (show ∀ u ∈ [Value.int .i64 (stdPort W r x y)], u.oneCell' = true by simp [Value.oneCell'])
              have b4' := Lib.hid (show x * k + y + 1 ≤ maxLen by unfold maxLen; omega)
              clear g6 hs6 a0 a1 a2 hax hay
              go_wp2_with (at_builtin; refine wpList_append_own _ rfl _ _ 28 rfl (g + 1) 3 i0 (.int .i64 0) 1 8 Try.underlying28 hi hz0 hz1 hz2 rfl (by decide) _ (x * k + y) _ rfl (hown6.alloc _) ⟨w6.heap.size, 0, none⟩ 1 1 [.int .i64 (stdPort W r x y)] rfl rfl (World.news_of_block (cs := #[.int .i64 (stdPort W r x y)]) (t := 3) (fr := (0, 0)) (heap_alloc_new w6 _)) b3'.out b4'.out (by omega) (by simp; omega) ?_; intro v' w7 hown7 hgrow7 _; have HS7 := Lib.hid (HS6.out.app HNE.out hgrow7 hown7 HE.out); clear hown7 hgrow7 hown6)
              go_roundw
              case rel => exact ⟨y + 1, by go_num, by omega, HS7.out⟩
              case measure => simp [intOf]; omega
            · obtain rfl : y = k := by omega
              clear hst
              go_wp2_with fail
              go_roundw
              case rel => exact ⟨x + 1, by go_num, by omega, by rw [Nat.add_mul, Nat.one_mul]; exact HS1.out⟩
              case measure => simp [intOf]; omega
        · obtain rfl : x = k := by omega
          obtain ⟨Av, cv, rfl, _⟩ := own_form HS0.out.2.2.2.1
          have h1 := (HS0.out.2.1.set_ 0 (.slice Av (x * x) cv)).cell 0
          simp at h1
          have f1 := HS0.out.2.1.frozen 0
          have a1 : wr.cell? ⟨w.heap.size + 1, 0, none⟩ = some (.slice none 0 0) := HS0.out.2.1.cell 0
          go_wp2_with fail
          have HSQ := Lib.hid (show sqG W H = x * x from by rw [← HK.out]; rfl)
          refine bodyPost_ret (v := .tuple #[.agg #[.slice Av (x * x) cv], .bool true]) (by simp [results, Try.results59, go_sem, h1]) rfl ⟨_, rfl, ?_, ?_⟩
          · have := ownsRow_setCell_below HS0.out.2.2.2.1 (a := ⟨w.heap.size + 1, 0, none⟩) (by show w.heap.size + 1 < g + 1; have := HNE.out; omega) (.slice Av (x * x) cv)
            rw [HPP.out, stdTab, stdTo_len, HSQ.out]
            exact own_less this (by have := HNE.out; omega)
          · exact gb_below_none (gb_setCell (gb_of_below HS0.out.2.2.2.2 none) (.inr (by show w.heap.size ≤ w.heap.size + 1; omega)) _) (Nat.le_refl _)
end Go.Proofs.Ytcmlnokfjbglaaa
end

section
namespace Go.Proofs.Ytcmlnokfjbglaaa
open Go.ChangeShapes Go.WideShapes Go.ChangeAt Go.RowKit
set_option linter.unusedVariables false
set_option maxRecDepth 20000

theorem std_ok1 (W H : Int) : stdOk W H 1 = okG W H := by unfold stdOk; simp
theorem std_ok2 (W H : Int) : stdOk W H 2 = okG W H := by unfold stdOk; simp
set_option maxHeartbeats 1600000 in
theorem implSplit (W H : Int) (w : World) :
    Calls Try.prog 19 #[.agg #[.int .i64 W, .int .i64 H]] w (RetCls (stdRes W H 1) (stdRes W H 2) (okG W H) w) := by
  have hg := gb_alloc (gb_alloc (gb_refl w none) (.cells #[.int .i64 W, .int .i64 H] 27)) (.cells #[.slice none 0 0, .slice none 0 0] 43)
  have kg := (Blk.new w 27 #[.int .i64 W, .int .i64 H]).alloc (.cells #[.slice none 0 0, .slice none 0 0] 43)
  have kb := Blk.new (w.alloc (.cells #[.int .i64 W, .int .i64 H] 27)) 43 #[.slice none 0 0, .slice none 0 0]
  rw [alloc_size] at kb
  have KB := Lib.hid kb
  have KG := Lib.hid kg
  have HG := Lib.hid hg
  clear hg kg kb
  have HM1 := Lib.hid (fun w => implStdTab W H 1 w)
  have HM2 := Lib.hid (fun w => implStdTab W H 2 w)
  rw [std_ok1] at HM1
  rw [std_ok2] at HM2
  obtain ⟨P, hP⟩ : ∃ P, stdRes W H 1 = P := ⟨_, rfl⟩
  obtain ⟨Q, hQ⟩ : ∃ Q, stdRes W H 2 = Q := ⟨_, rfl⟩
  obtain ⟨b, hb⟩ : ∃ b, okG W H = b := ⟨_, rfl⟩
  rw [hP, hb] at HM1
  rw [hQ, hb] at HM2
  rw [hP, hQ, hb]
  clear hP hQ hb
  go_enter Try.func19, Try.ntmps19
  go_wp2_with fail
  refine (HM1.out _).mono ?_
  rintro e w1 ⟨v1, rfl, o1, b1⟩
  obtain ⟨A1, c1, rfl, _⟩ := own_form o1
  have G1 := Lib.hid (gb_trans HG.out (gb_of_below b1 none))
  have KG1 := Lib.hid ((KG.out.grown (gb_of_below b1 none) (by simp)).alloc (.cells #[.slice A1 P.length c1] 32))
  have e0 : (w1.alloc (.cells #[.slice A1 P.length c1] 32)).cell? ⟨w.heap.size, 0, none⟩ = some (.int .i64 W) := KG1.out.cell 0
  have e1 : (w1.alloc (.cells #[.slice A1 P.length c1] 32)).cell? ⟨w.heap.size, 1, none⟩ = some (.int .i64 H) := KG1.out.cell 1
  have K1 := Lib.hid ((KB.out.grown (gb_of_below b1 none) (by simp)).alloc (.cells #[.slice A1 P.length c1] 32))
  have O1 := Lib.hid ((own_less o1 HG.out.size).alloc (.cells #[.slice A1 P.length c1] 32))
  have L1 := Lib.hid (show ∀ j, (Value.slice A1 P.length c1).ownBlock = some j → j < w1.heap.size from fun j e => (o1.lt j e).2)
  have KT1 := Lib.hid (Blk.new w1 32 #[.slice A1 P.length c1])
  have G1b := Lib.hid (gb_alloc G1.out (.cells #[.slice A1 P.length c1] 32))
  clear o1 b1
  go_wp2_with fail
  refine (HM2.out _).mono ?_
  rintro e w2 ⟨v2, rfl, o2, b2⟩
  obtain ⟨A2, c2, rfl, _⟩ := own_form o2
  have K2 := Lib.hid ((K1.out.grown (gb_of_below b2 none) (by simp)).alloc (.cells #[.slice A2 Q.length c2] 32))
  have KT2 := Lib.hid ((KT1.out.grown (gb_of_below b2 none) (by simp)).alloc (.cells #[.slice A2 Q.length c2] 32))
  have KU2 := Lib.hid (Blk.new w2 32 #[.slice A2 Q.length c2])
  have O12 := Lib.hid ((own_below O1.out b2).alloc (.cells #[.slice A2 Q.length c2] 32))
  have O2 := Lib.hid (o2.alloc (.cells #[.slice A2 Q.length c2] 32))
  have LT2 := Lib.hid (show ∀ j, (Value.slice A2 Q.length c2).ownBlock = some j → w1.heap.size < j from fun j e => by have := (o2.lt j e).1; rw [alloc_size] at this; omega)
  have G2 := Lib.hid (gb_alloc (gb_trans G1b.out (gb_of_below b2 none)) (.cells #[.slice A2 Q.length c2] 32))
  have t0 : (w2.alloc (.cells #[.slice A2 Q.length c2] 32)).cell? ⟨w1.heap.size, 0, none⟩ = some (.slice A1 P.length c1) := KT2.out.cell 0
  have u0 : (w2.alloc (.cells #[.slice A2 Q.length c2] 32)).cell? ⟨w2.heap.size, 0, none⟩ = some (.slice A2 Q.length c2) := KU2.out.cell 0
  have d0 : (w2.alloc (.cells #[.slice A2 Q.length c2] 32)).cell? ⟨w.heap.size + 1, 0, none⟩ = some (.slice none 0 0) := K2.out.cell 0
  have d1 : (w2.alloc (.cells #[.slice A2 Q.length c2] 32)).cell? ⟨w.heap.size + 1, 1, none⟩ = some (.slice none 0 0) := K2.out.cell 1
  have f0 := K2.out.frozen 0
  have f1 := K2.out.frozen 1
  obtain ⟨w3, hw3⟩ : ∃ w3, w2.alloc (.cells #[.slice A2 Q.length c2] 32) = w3 := ⟨_, rfl⟩
  rw [hw3] at t0 u0 d0 d1 f0 f1 K2 KT2 KU2 O12 O2 G2
  clear o2 b2 e0 e1
  have fin : RetCls P Q b w (.returned (.tuple #[.agg #[.slice A1 P.length c1, .slice A2 Q.length c2], .bool b])) ((w3.setCell ⟨w.heap.size + 1, 0, none⟩ (.slice A1 P.length c1)).setCell ⟨w.heap.size + 1, 1, none⟩ (.slice A2 Q.length c2)) := by
    have hbl : w.heap.size ≤ w.heap.size + 1 := by omega
    have s1 := G1b.out.size
    have gx : w3.grownBy ((w3.setCell ⟨w.heap.size + 1, 0, none⟩ (.slice A1 P.length c1)).setCell ⟨w.heap.size + 1, 1, none⟩ (.slice A2 Q.length c2)) (some (w.heap.size + 1)) := gb_setCell (p := ⟨w.heap.size + 1, 1, none⟩) (gb_setCell (p := ⟨w.heap.size + 1, 0, none⟩) (gb_refl w3 (some (w.heap.size + 1))) (.inl rfl) _) (.inl rfl) _
    have kk1 := row_kept O12.out gx (fun j e e2 => by cases e; exact own_ne O12.out K2.out (by decide) e2)
    have kk2 := row_kept O2.out gx (fun j e e2 => by cases e; exact own_ne O2.out K2.out (by decide) e2)
    refine ⟨_, _, rfl, ⟨kk1, own_less kk2 s1, ?_⟩, ?_⟩
    · intro j e e2
      have h1 := L1.out j e
      have h2 := LT2.out j e2
      omega
    · exact ((gb_below_none G2.out (Nat.le_refl _)).setCell hbl _).setCell hbl _
  have FIN := Lib.hid fin
  have hb := (K2.out.set_ 0 (.slice A1 P.length c1)).set_ 1 (.slice A2 Q.length c2)
  have r0 := hb.cell 0
  have r1 := hb.cell 1
  simp at r0 r1
  clear fin hb
  cases b with
  | true =>
    go_wp2_with fail
    exact bodyPost_ret (v := .tuple #[.agg #[.slice A1 P.length c1, .slice A2 Q.length c2], .bool true]) (by simp [results, Try.results19, go_sem, r0, r1]) rfl FIN.out
  | false =>
    go_wp2_with fail
    exact bodyPost_ret (v := .tuple #[.agg #[.slice A1 P.length c1, .slice A2 Q.length c2], .bool false]) (by simp [results, Try.results19, go_sem, r0, r1]) rfl FIN.out
end Go.Proofs.Ytcmlnokfjbglaaa
end
