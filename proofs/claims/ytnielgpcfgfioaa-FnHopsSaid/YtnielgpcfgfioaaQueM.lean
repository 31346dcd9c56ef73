/- What is proved here: the search backwards through a queue as mathematics: each channel gets the least number of steps from it to a certain one, or -1; nothing of the program. -/
import Derived.Test.YtnielgpcfgfioaaPathM
namespace Go.Proofs.Ytnielgpcfgfioaa
open Go.ChangeShapes Go.WideShapes Go.ChangeAt Go.RowKit
set_option linter.unusedVariables false

/-- The channels that can wait for c. -/
def waitD (D : List Dep) (c : Int) : List Int := (D.filter fun d => decide (d.2 = c)).map (·.1)
theorem wait_iff {D : List Dep} {c x : Int} : x ∈ waitD D c ↔ (x, c) ∈ D := by
  unfold waitD
  rw [List.mem_map]
  constructor
  · rintro ⟨d, hd, rfl⟩
    obtain ⟨h1, h2⟩ := List.mem_filter.1 hd
    have h3 : d.2 = c := by simpa using h2
    have : d = (d.1, c) := Prod.ext rfl h3
    rwa [this] at h1
  · exact fun h => ⟨_, List.mem_filter.2 ⟨h, by simp⟩, rfl⟩
theorem wait_edge {D : List Dep} {c t : Nat} : (t : Int) ∈ waitD D (c : Int) ↔ edgeB D t c = true := by rw [wait_iff, edge_iff]
theorem wait_nat {D : List Dep} (hD : okD D = true) {c : Nat} {x : Int} (h : x ∈ waitD D (c : Int)) : ∃ t : Nat, x = (t : Int) ∧ t < 128 ∧ edgeB D t c = true := by
  have h1 := inD_iff.1 (okD_in hD (wait_iff.1 h))
  simp only at h1
  refine ⟨x.toNat, by omega, by omega, ?_⟩
  rw [← wait_edge, Int.toNat_of_nonneg h1.1]
  exact h
theorem wait_take {D : List Dep} {k : Nat} (hk : k < D.length) (c : Int) : waitD (D.take (k + 1)) c = if (atD D k).2 = c then waitD (D.take k) c ++ [(atD D k).1] else waitD (D.take k) c := by
  unfold waitD
  have e : D.take (k + 1) = D.take k ++ [atD D k] := by rw [List.take_succ_eq_append_getElem hk, atD_get hk]
  rw [e, List.filter_append, List.map_append]
  by_cases h : (atD D k).2 = c
  · rw [if_pos h]; simp [h]
  · rw [if_neg h]; simp [h]
theorem wait_length (D : List Dep) (c : Int) : (waitD D c).length ≤ D.length := by
  unfold waitD
  rw [List.length_map]
  exact List.length_filter_le _ _

/-- One waiter: marked with the count if it is not yet marked. -/
def mark1 (n : Int) (s : List Int × List Int) (t : Int) : List Int × List Int := if s.1.getD t.toNat 0 = -1 then (s.1.set t.toNat n, s.2 ++ [t]) else s
def markN (n : Int) (W : List Int) (s : List Int × List Int) (k : Nat) : List Int × List Int := (W.take k).foldl (mark1 n) s
theorem markN_zero (n : Int) (W : List Int) (s : List Int × List Int) : markN n W s 0 = s := rfl
theorem markN_next {n : Int} {W : List Int} {s : List Int × List Int} {k : Nat} (hk : k < W.length) : markN n W s (k + 1) = mark1 n (markN n W s k) (W.getD k 0) := by
  unfold markN
  rw [List.take_succ_eq_append_getElem hk, List.foldl_append, List.getD_eq_getElem?_getD, List.getElem?_eq_getElem hk]
  rfl
theorem mark_yes {n t : Int} {X M : List Int} (h : X.getD t.toNat 0 = -1) : mark1 n (X, M) t = (X.set t.toNat n, M ++ [t]) := if_pos h
theorem mark_no {n t : Int} {X M : List Int} (h : X.getD t.toNat 0 ≠ -1) : mark1 n (X, M) t = (X, M) := if_neg h
theorem mark_len (n : Int) (s : List Int × List Int) (t : Int) : (mark1 n s t).1.length = s.1.length ∧ (mark1 n s t).2.length ≤ s.2.length + 1 := by
  unfold mark1
  split <;> simp
theorem markN_len (n : Int) (W : List Int) (s : List Int × List Int) : ∀ k, k ≤ W.length → (markN n W s k).1.length = s.1.length ∧ (markN n W s k).2.length ≤ s.2.length + k
  | 0, _ => ⟨rfl, Nat.le_refl _⟩
  | k + 1, h => by
    have h1 := markN_len n W s k (by omega)
    have h2 := mark_len n (markN n W s k) (W.getD k 0)
    rw [markN_next (by omega)]
    omega

/-- The numbers of steps from the channels that are marked. -/
def stepL (D : List Dep) (a : Nat) (M : List Nat) : List Int := (List.range 128).map fun t => if t ∈ M then (distD D t a : Int) else -1
theorem stepL_len (D : List Dep) (a : Nat) (M : List Nat) : (stepL D a M).length = 128 := by simp [stepL]
theorem stepL_at {D : List Dep} {a t : Nat} {M : List Nat} (h : t < 128) : (stepL D a M).getD t 0 = if t ∈ M then (distD D t a : Int) else -1 := by
  rw [List.getD_eq_getElem?_getD, stepL, List.getElem?_map, List.getElem?_range h]; rfl
theorem stepL_nil (D : List Dep) (a : Nat) : stepL D a [] = List.replicate 128 (-1) := by
  unfold stepL
  exact List.ext_getElem (by simp only [List.length_map, List.length_range, List.length_replicate]) fun i h1 h2 => by
    rw [List.getElem_map, List.getElem_replicate, if_neg (by simp)]
theorem getD_ext {X Y : List Int} {n : Nat} (hX : X.length = n) (hY : Y.length = n) (h : ∀ t, t < n → X.getD t 0 = Y.getD t 0) : X = Y := by
  apply List.ext_getElem (by rw [hX, hY])
  intro i h1 h2
  have := h i (by omega)
  rw [List.getD_eq_getElem?_getD, List.getD_eq_getElem?_getD, List.getElem?_eq_getElem h1, List.getElem?_eq_getElem h2] at this
  exact this
theorem stepL_set {D : List Dep} {a t : Nat} {M : List Nat} (ht : t < 128) : (stepL D a M).set t (distD D t a : Int) = stepL D a (M ++ [t]) := by
  refine getD_ext (n := 128) (by rw [List.length_set, stepL_len]) (stepL_len _ _ _) fun u hu => ?_
  rw [set_getD (by rw [stepL_len]; exact ht), stepL_at hu, stepL_at hu]
  by_cases e : t = u
  · subst e; simp
  · rw [if_neg e]
    have : (u ∈ M ++ [t]) ↔ u ∈ M := by simp [show ¬ u = t from fun h => e h.symm]
    simp only [this]
/-- The channels of a list, as the program has them. -/
def upI (M : List Nat) : List Int := M.map (fun x : Nat => (x : Int))
theorem upI_len (M : List Nat) : (upI M).length = M.length := by simp [upI]
theorem upI_app (M : List Nat) (t : Nat) : upI (M ++ [t]) = upI M ++ [(t : Int)] := by simp [upI]
theorem upI_at {M : List Nat} {k : Nat} (h : k < M.length) : (upI M).getD k 0 = (M.getD k 0 : Int) := by
  rw [List.getD_eq_getElem?_getD, List.getD_eq_getElem?_getD, upI, List.getElem?_map, List.getElem?_eq_getElem h]; rfl

/-- The queue M, of which the first i channels are done; the last ones are at most n steps away. -/
structure Que (D : List Dep) (a i n : Nat) (M : List Nat) : Prop where
  le : i ≤ M.length
  rng : ∀ x ∈ M, x < 128
  nod : M.Nodup
  pos : ∀ x ∈ M, 1 ≤ distD D x a ∧ distD D x a ≤ n
  mon : ∀ k l, k ≤ l → l < M.length → distD D (M.getD k 0) a ≤ distD D (M.getD l 0) a
  don : ∀ k, k < i → ∀ t, edgeB D t (M.getD k 0) = true → t ∈ M
theorem que_few {D : List Dep} {a i n : Nat} {M : List Nat} (h : Que D a i n M) : M.length ≤ 128 := pigeon 128 M h.nod h.rng
theorem que_start (D : List Dep) (a : Nat) : Que D a 0 1 [] := ⟨Nat.le_refl _, fun x h => (by cases h), List.nodup_nil, fun x h => (by cases h), fun k l _ h => (by simp at h), fun k h => (by omega)⟩
theorem getD_old {M : List Nat} {t k : Nat} (h : k < M.length) : (M ++ [t]).getD k 0 = M.getD k 0 := by
  rw [List.getD_eq_getElem?_getD, List.getD_eq_getElem?_getD, List.getElem?_append_left h]
theorem getD_memN {M : List Nat} {k : Nat} (h : k < M.length) : M.getD k 0 ∈ M := by
  rw [List.getD_eq_getElem?_getD, List.getElem?_eq_getElem h]
  exact List.getElem_mem h
theorem Que.hit {D : List Dep} {a i n t : Nat} {M : List Nat} (h : Que D a i n M) (ht : t < 128) (hn : t ∉ M) (hd : distD D t a = n) (h1 : 1 ≤ n) : Que D a i n (M ++ [t]) := by
  refine ⟨by rw [List.length_append]; have := h.le; omega, fun x hx => ?_, ?_, fun x hx => ?_, fun k l hkl hl => ?_, fun k hk u hu => ?_⟩
  · rcases List.mem_append.1 hx with hx | hx
    · exact h.rng x hx
    · rw [List.mem_singleton.1 hx]; exact ht
  · rw [List.nodup_append]
    refine ⟨h.nod, by simp, fun x hx y hy e => ?_⟩
    rw [List.mem_singleton] at hy
    subst hy
    subst e
    exact hn hx
  · rcases List.mem_append.1 hx with hx | hx
    · exact h.pos x hx
    · rw [List.mem_singleton.1 hx]; omega
  · rw [List.length_append, List.length_singleton] at hl
    have hlast : (M ++ [t]).getD M.length 0 = t := by
      rw [List.getD_eq_getElem?_getD, List.getElem?_append_right (Nat.le_refl _), Nat.sub_self]; rfl
    by_cases hk : k < M.length
    · by_cases hl2 : l < M.length
      · rw [getD_old hk, getD_old hl2]; exact h.mon k l hkl hl2
      · obtain rfl : l = M.length := by omega
        rw [getD_old hk, hlast, hd]
        exact (h.pos _ (getD_memN hk)).2
    · obtain rfl : k = M.length := by omega
      obtain rfl : l = M.length := by omega
      exact Nat.le_refl _
  · rw [getD_old (by have := h.le; omega)] at hu
    exact List.mem_append_left _ (h.don k hk u hu)
theorem one_edge {D : List Dep} (hD : okD D = true) {t a : Nat} (h : distD D t a = 1) : edgeB D t a = true := by
  have := dist_pos hD (a := t) (b := a) (by omega)
  rw [h] at this
  exact (way_one hD).1 this
theorem edge_one {D : List Dep} (hD : okD D = true) {t a : Nat} (h : edgeB D t a = true) : distD D t a = 1 := by
  have := dist_way hD (Nat.le_refl 1) ((way_one hD).2 h)
  omega
/-- Behind the first step of a shortest way the rest is a shortest way. -/
theorem next_dist {D : List Dep} (hD : okD D = true) {t a m : Nat} (hm : 1 ≤ m) (h : distD D t a = m + 1) : ∃ s, edgeB D t s = true ∧ distD D s a = m := by
  have hw := dist_pos hD (a := t) (b := a) (by omega)
  rw [h] at hw
  obtain ⟨s, h1, h2⟩ := way_head hD hw
  refine ⟨s, h1, ?_⟩
  have h3 := dist_way hD hm h2
  have h5 := dist_way hD (show 1 ≤ distD D s a + 1 by omega) (way_cons hD h1 (dist_pos hD h3.1))
  omega
theorem edge_dist {D : List Dep} (hD : okD D = true) {t c a : Nat} (h : edgeB D t c = true) (hc : 1 ≤ distD D c a) : 1 ≤ distD D t a ∧ distD D t a ≤ distD D c a + 1 :=
  dist_way hD (by omega) (way_cons hD h (dist_pos hD hc))
/-- All channels that are as near as the one at i are in the queue. -/
theorem que_near {D : List Dep} (hD : okD D = true) {a i n : Nat} {M : List Nat} (h : Que D a i n M) (hf : ∀ t, edgeB D t a = true → t ∈ M) (hi : i < M.length) : ∀ m t, distD D t a = m → 1 ≤ m → m ≤ distD D (M.getD i 0) a → t ∈ M
  | 0, t, _, h1, _ => by omega
  | 1, t, h1, _, _ => hf t (one_edge hD h1)
  | m + 2, t, h1, _, h3 => by
    obtain ⟨s, h4, h5⟩ := next_dist hD (m := m + 1) (by omega) h1
    have h6 := que_near hD h hf hi (m + 1) s h5 (by omega) (by omega)
    obtain ⟨l, hl, e⟩ := List.getElem_of_mem h6
    have e2 : M.getD l 0 = s := by rw [List.getD_eq_getElem?_getD, List.getElem?_eq_getElem hl, e]; rfl
    have hli : l < i := by
      by_cases hc : l < i
      · exact hc
      · have := h.mon i l (by omega) hl
        rw [e2] at this
        omega
    exact h.don l hli t (by rw [e2]; exact h4)
theorem que_next {D : List Dep} (hD : okD D = true) {a i n t : Nat} {M : List Nat} (h : Que D a i n M) (hf : ∀ t, edgeB D t a = true → t ∈ M) (hi : i < M.length) (ht : edgeB D t (M.getD i 0) = true) (hn : t ∉ M) : distD D t a = distD D (M.getD i 0) a + 1 := by
  have h1 := edge_dist hD ht (h.pos _ (getD_memN hi)).1
  by_cases hc : distD D t a ≤ distD D (M.getD i 0) a
  · exact absurd (que_near hD h hf hi _ t rfl h1.1 hc) hn
  · omega
/-- The waiters of a channel are marked. -/
theorem mark_run {D : List Dep} {a i n : Nat} (h1 : 1 ≤ n) {M0 : List Nat} : ∀ (W : List Int) (M : List Nat), Que D a i n M → M0 <+: M → (∀ M', Que D a i n M' → M0 <+: M' → ∀ x ∈ W, ∃ t : Nat, x = (t : Int) ∧ t < 128 ∧ (t ∉ M' → distD D t a = n)) →
    ∃ M', W.foldl (mark1 (n : Int)) (stepL D a M, upI M) = (stepL D a M', upI M') ∧ Que D a i n M' ∧ M0 <+: M' ∧ (∀ x ∈ M, x ∈ M') ∧ ∀ t : Nat, (t : Int) ∈ W → t ∈ M'
  | [], M, h, hp, _ => ⟨M, rfl, h, hp, fun x hx => hx, fun t ht => by cases ht⟩
  | x :: W, M, h, hp, hs => by
    obtain ⟨t, rfl, ht, hd⟩ := hs M h hp x (List.mem_cons_self ..)
    have hs2 : ∀ M', Que D a i n M' → M0 <+: M' → ∀ x ∈ W, ∃ t : Nat, x = (t : Int) ∧ t < 128 ∧ (t ∉ M' → distD D t a = n) := fun M' h1 h2 x hx => hs M' h1 h2 x (List.mem_cons_of_mem _ hx)
    rw [List.foldl_cons]
    by_cases hm : t ∈ M
    · have e : (stepL D a M).getD ((t : Int)).toNat 0 ≠ -1 := by
        rw [Int.toNat_natCast, stepL_at ht, if_pos hm]; omega
      rw [mark_no e]
      obtain ⟨M', e1, e2, e3, e4, e5⟩ := mark_run h1 W M h hp hs2
      refine ⟨M', e1, e2, e3, e4, fun u hu => ?_⟩
      rcases List.mem_cons.1 hu with e | hu
      · have : u = t := by omega
        rw [this]; exact e4 t hm
      · exact e5 u hu
    · have e : (stepL D a M).getD ((t : Int)).toNat 0 = -1 := by
        rw [Int.toNat_natCast, stepL_at ht, if_neg hm]
      rw [mark_yes e, Int.toNat_natCast, ← hd hm, stepL_set ht, hd hm, ← upI_app]
      obtain ⟨M', e1, e2, e3, e4, e5⟩ := mark_run h1 W (M ++ [t]) (h.hit ht hm (hd hm) h1) (hp.trans (List.prefix_append _ _)) hs2
      refine ⟨M', e1, e2, e3, fun x hx => e4 x (List.mem_append_left _ hx), fun u hu => ?_⟩
      rcases List.mem_cons.1 hu with e | hu
      · have : u = t := by omega
        rw [this]; exact e4 t (List.mem_append_right _ (List.mem_singleton.2 rfl))
      · exact e5 u hu
theorem markN_all (n : Int) (W : List Int) (s : List Int × List Int) : markN n W s W.length = W.foldl (mark1 n) s := by unfold markN; rw [List.take_length]
/-- The start. -/
theorem que_one {D : List Dep} (hD : okD D = true) (a : Nat) : ∃ M, markN 1 (waitD D (a : Int)) (stepL D a [], upI []) (waitD D (a : Int)).length = (stepL D a M, upI M) ∧ Que D a 0 1 M ∧ ∀ t, edgeB D t a = true → t ∈ M := by
  obtain ⟨M, h1, h2, _, _, h3⟩ := mark_run (D := D) (a := a) (i := 0) (n := 1) (Nat.le_refl _) (M0 := []) (waitD D (a : Int)) [] (que_start D a) List.nil_prefix (fun M' _ _ x hx => by
    obtain ⟨t, e, ht, hd⟩ := wait_nat hD hx
    exact ⟨t, e, ht, fun _ => edge_one hD hd⟩)
  exact ⟨M, by rw [markN_all]; exact h1, h2, fun t ht => h3 t (wait_edge.2 ht)⟩
/-- One channel of the queue. -/
theorem que_step {D : List Dep} (hD : okD D = true) {a i n : Nat} {M : List Nat} (h : Que D a i n M) (hf : ∀ t, edgeB D t a = true → t ∈ M) (hi : i < M.length) (hn : n ≤ distD D (M.getD i 0) a + 1) :
    ∃ M', markN ((distD D (M.getD i 0) a + 1 : Nat) : Int) (waitD D (M.getD i 0 : Int)) (stepL D a M, upI M) (waitD D (M.getD i 0 : Int)).length = (stepL D a M', upI M') ∧ Que D a (i + 1) (distD D (M.getD i 0) a + 1) M' ∧ (∀ t, edgeB D t a = true → t ∈ M') ∧ (i + 1 < M'.length → distD D (M.getD i 0) a + 1 ≤ distD D (M'.getD (i + 1) 0) a + 1) := by
  have hq : Que D a i (distD D (M.getD i 0) a + 1) M := ⟨h.le, h.rng, h.nod, fun x hx => ⟨(h.pos x hx).1, Nat.le_trans (h.pos x hx).2 hn⟩, h.mon, h.don⟩
  have pre : ∀ M', M <+: M' → M'.getD i 0 = M.getD i 0 := fun M' hp => by
    obtain ⟨N, rfl⟩ := hp
    rw [List.getD_eq_getElem?_getD, List.getD_eq_getElem?_getD, List.getElem?_append_left hi]
  obtain ⟨M', h1, h2, hp, h3, h4⟩ := mark_run (D := D) (a := a) (i := i) (n := distD D (M.getD i 0) a + 1) (by omega) (M0 := M) (waitD D (M.getD i 0 : Int)) M hq (List.prefix_refl _) (fun M' hM' hp x hx => by
    obtain ⟨t, e, ht, hd⟩ := wait_nat hD hx
    have hi2 : i < M'.length := Nat.lt_of_lt_of_le hi hp.length_le
    refine ⟨t, e, ht, fun hn => ?_⟩
    have := que_next hD hM' (fun u hu => hp.subset (hf u hu)) hi2 (by rw [pre M' hp]; exact hd) hn
    rwa [pre M' hp] at this)
  have hi2 : i < M'.length := Nat.lt_of_lt_of_le hi hp.length_le
  refine ⟨M', by rw [markN_all]; exact h1, ⟨hi2, h2.rng, h2.nod, h2.pos, h2.mon, fun k hk t ht => ?_⟩, fun t ht => h3 t (hf t ht), fun hl => ?_⟩
  · rcases Nat.lt_succ_iff_lt_or_eq.1 hk with hk | rfl
    · exact h2.don k hk t ht
    · rw [pre M' hp] at ht
      exact h4 t (wait_edge.2 ht)
  · have := h2.mon i (i + 1) (by omega) hl
    rw [pre M' hp] at this
    omega
/-- All the least numbers of steps to a channel, -1 where there are none. -/
def toL (D : List Dep) (a : Nat) : List Int := (List.range 128).map fun t => if distD D t a = 0 then -1 else (distD D t a : Int)
theorem toL_len (D : List Dep) (a : Nat) : (toL D a).length = 128 := by simp [toL]
theorem toL_at {D : List Dep} {a t : Nat} (h : t < 128) : (toL D a).getD t 0 = if distD D t a = 0 then -1 else (distD D t a : Int) := by
  rw [List.getD_eq_getElem?_getD, toL, List.getElem?_map, List.getElem?_range h]; rfl
theorem que_end {D : List Dep} (hD : okD D = true) {a n : Nat} {M : List Nat} (h : Que D a M.length n M) (hf : ∀ t, edgeB D t a = true → t ∈ M) : stepL D a M = toL D a := by
  have key : ∀ m t, distD D t a = m → 1 ≤ m → t ∈ M := fun m => by
    induction m with
    | zero => intro t _ h1; omega
    | succ m ih =>
      intro t h1 _
      by_cases hm : m = 0
      · exact hf t (one_edge hD (by omega))
      · obtain ⟨s, h4, h5⟩ := next_dist hD (m := m) (by omega) h1
        obtain ⟨l, hl, e⟩ := List.getElem_of_mem (ih s h5 (by omega))
        have e2 : M.getD l 0 = s := by rw [List.getD_eq_getElem?_getD, List.getElem?_eq_getElem hl, e]; rfl
        exact h.don l hl t (by rw [e2]; exact h4)
  refine getD_ext (n := 128) (stepL_len _ _ _) (toL_len _ _) fun t ht => ?_
  rw [stepL_at ht, toL_at ht]
  by_cases h0 : distD D t a = 0
  · have : t ∉ M := fun hm => by have := (h.pos t hm).1; omega
    rw [if_neg this, if_pos h0]
  · rw [if_pos (key _ t rfl (by omega)), if_neg h0]

/-- The next channel of the way back: the first successor with so many steps left. -/
def nextW (D : List Dep) (X : List Int) (left u : Nat) : Nat := match (succD D (u : Int)).find? (fun s => decide (X.getD s.toNat 0 = (left : Int))) with | some s => s.toNat | none => u
theorem find_congr {p q : Int → Bool} : ∀ {l : List Int}, (∀ x ∈ l, p x = q x) → l.find? p = l.find? q
  | [], _ => rfl
  | x :: l, h => by
    rw [List.find?_cons, List.find?_cons, h x (List.mem_cons_self ..), find_congr (fun y hy => h y (List.mem_cons_of_mem _ hy))]
theorem nextW_is {D : List Dep} (hD : okD D = true) {st b left u : Nat} (hb : distD D st st = b) (h0 : 0 < left) (h1 : left < b) : nextW D (toL D st) left u = nextP D st left u := by
  unfold nextW nextP
  have : (succD D (u : Int)).find? (fun s => decide ((toL D st).getD s.toNat 0 = (left : Int))) = (succD D (u : Int)).find? (candP D st left) := by
    refine find_congr fun s hs => ?_
    have hr := succ_in hD hs
    unfold candP
    rw [if_neg (by omega), toL_at (by omega)]
    by_cases h2 : distD D s.toNat st = left
    · have h3 : s ≠ (st : Int) := fun e => by
        subst e
        rw [Int.toNat_natCast] at h2
        omega
      rw [h2, if_neg (by omega)]
      simp [h3]
    · by_cases h3 : distD D s.toNat st = 0
      · rw [if_pos h3]
        have : ¬ (-1 : Int) = (left : Int) := by omega
        simp [this, h2]
      · rw [if_neg h3]
        have : ¬ ((distD D s.toNat st : Int) = (left : Int)) := by omega
        simp [this, h2]
  simp only [this]
  rfl
theorem cyc_next (D : List Dep) (st b : Nat) (i : Nat) : (List.range (i + 1)).map (fun i => (atP D st b i : Int)) = (List.range i).map (fun i => (atP D st b i : Int)) ++ [(atP D st b i : Int)] := by
  rw [List.range_succ, List.map_append]; rfl
end Go.Proofs.Ytnielgpcfgfioaa
