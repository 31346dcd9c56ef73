/- What is proved here: the search level by level as mathematics: what is known of the numbers of steps while a level is gone through, and that they are the least ones at the end; nothing of the program. -/
import Derived.Test.YtnielgpcfgfioaaPathM
namespace Go.Proofs.Ytnielgpcfgfioaa
open Go.ChangeShapes Go.WideShapes Go.ChangeAt Go.RowKit
set_option linter.unusedVariables false

/-- X: the numbers found (0: none), N: the channels found at level n, P: the successors that were looked at. -/
structure Bfs (D : List Dep) (a n : Nat) (P : Nat → Prop) (X N : List Int) : Prop where
  len : X.length = 128
  old : ∀ t, t < 128 → X.getD t 0 ≠ 0 → ∃ m : Nat, X.getD t 0 = (m : Int) ∧ 1 ≤ m ∧ m ≤ n ∧ fstB D a m t ∧ (m = n → (t : Int) ∈ N)
  zer : ∀ t, t < 128 → X.getD t 0 = 0 → ¬ P t ∧ ∀ m, 1 ≤ m → m < n → wayB D a m t = false
  nxt : ∀ x ∈ N, 0 ≤ x ∧ x < 128 ∧ X.getD x.toNat 0 = (n : Int)
  nod : N.Nodup
theorem Bfs.congr {D : List Dep} {a n : Nat} {P Q : Nat → Prop} {X N : List Int} (h : Bfs D a n P X N) (hq : ∀ t, t < 128 → Q t → P t) : Bfs D a n Q X N :=
  ⟨h.len, h.old, fun t ht h0 => ⟨fun hp => (h.zer t ht h0).1 (hq t ht hp), (h.zer t ht h0).2⟩, h.nxt, h.nod⟩
theorem Bfs.few {D : List Dep} {a n : Nat} {P : Nat → Prop} {X N : List Int} (h : Bfs D a n P X N) : N.length ≤ 128 := by
  have h1 : (N.map Int.toNat).Nodup := by
    rw [List.nodup_iff_pairwise_ne, List.pairwise_map]
    refine List.Pairwise.imp_of_mem ?_ (List.nodup_iff_pairwise_ne.1 h.nod)
    intro x y hx hy hne he
    have := h.nxt x hx
    have := h.nxt y hy
    exact hne (by omega)
  have := pigeon 128 _ h1 (fun x hx => by
    obtain ⟨y, hy, rfl⟩ := List.mem_map.1 hx
    have := h.nxt y hy
    omega)
  rwa [List.length_map] at this
theorem Bfs.miss {D : List Dep} {a n s : Nat} {P : Nat → Prop} {X N : List Int} (h : Bfs D a n P X N) (hs : X.getD s 0 ≠ 0) : Bfs D a n (fun t => P t ∨ t = s) X N :=
  ⟨h.len, h.old, fun t ht h0 => ⟨fun hp => by
    rcases hp with hp | rfl
    · exact (h.zer t ht h0).1 hp
    · exact hs h0, (h.zer t ht h0).2⟩, h.nxt, h.nod⟩
theorem Bfs.hit {D : List Dep} {a n s : Nat} {P : Nat → Prop} {X N : List Int} (h : Bfs D a n P X N) (hn : 1 ≤ n) (hs : s < 128) (h0 : X.getD s 0 = 0) (hw : wayB D a n s = true) : Bfs D a n (fun t => P t ∨ t = s) (X.set s (n : Int)) (N ++ [(s : Int)]) := by
  have hsl : s < X.length := by rw [h.len]; exact hs
  have hnew : (s : Int) ∉ N := fun hm => by
    have := (h.nxt _ hm).2.2
    rw [Int.toNat_natCast, h0] at this
    omega
  refine ⟨by rw [List.length_set]; exact h.len, fun t ht hx => ?_, fun t ht hx => ?_, fun x hx => ?_, ?_⟩
  · by_cases e : s = t
    · subst e
      rw [set_getD hsl, if_pos rfl]
      exact ⟨n, rfl, hn, Nat.le_refl _, ⟨hw, (h.zer s hs h0).2⟩, fun _ => List.mem_append_right _ (List.mem_singleton.2 rfl)⟩
    · rw [set_getD hsl, if_neg e] at hx ⊢
      obtain ⟨m, h1, h2, h3, h4, h5⟩ := h.old t ht hx
      exact ⟨m, h1, h2, h3, h4, fun e => List.mem_append_left _ (h5 e)⟩
  · by_cases e : s = t
    · subst e
      rw [set_getD hsl, if_pos rfl] at hx
      omega
    · rw [set_getD hsl, if_neg e] at hx
      refine ⟨fun hp => ?_, (h.zer t ht hx).2⟩
      rcases hp with hp | hp
      · exact (h.zer t ht hx).1 hp
      · exact e hp.symm
  · rcases List.mem_append.1 hx with hx | hx
    · obtain ⟨h1, h2, h3⟩ := h.nxt x hx
      refine ⟨h1, h2, ?_⟩
      rw [set_getD hsl]
      split
      · rfl
      · exact h3
    · rw [List.mem_singleton.1 hx]
      refine ⟨by omega, by omega, ?_⟩
      rw [set_getD hsl, Int.toNat_natCast, if_pos rfl]
  · rw [List.nodup_append]
    refine ⟨h.nod, by simp, fun x hx y hy e => ?_⟩
    rw [List.mem_singleton] at hy
    subst hy
    subst e
    exact hnew hx
/-- The successors of a whole level. -/
def allP (D : List Dep) (a n : Nat) (t : Nat) : Prop := ∃ u, levB D a (n - 1) u ∧ edgeB D u t = true
/-- The front of level n. -/
structure Front (D : List Dep) (a n : Nat) (F : List Int) : Prop where
  lev : ∀ v : Nat, (v : Int) ∈ F ↔ levB D a (n - 1) v
  rng : ∀ x ∈ F, 0 ≤ x ∧ x < 128
theorem front_one (D : List Dep) {a : Nat} (ha : a < 128) : Front D a 1 [(a : Int)] :=
  ⟨fun v => by rw [List.mem_singleton]; exact ⟨fun e => by have : v = a := by omega
                                                           exact this, fun e => by have : v = a := e
                                                                                   rw [this]⟩, fun x hx => by rw [List.mem_singleton] at hx; omega⟩
theorem bfs_start (D : List Dep) (a : Nat) {X : List Int} (hX : X.length = 128) (h0 : ∀ t, t < 128 → X.getD t 0 = 0) : Bfs D a 1 (fun _ => False) X [] :=
  ⟨hX, fun t ht h => absurd (h0 t ht) h, fun t ht _ => ⟨fun h => h, fun m h1 h2 => by omega⟩, fun x hx => (by cases hx), List.nodup_nil⟩
theorem Bfs.found {D : List Dep} (hD : okD D = true) {a n : Nat} {X N : List Int} (h : Bfs D a n (allP D a n) X N) (hn : 1 ≤ n) {t : Nat} (ht : t < 128) (h0 : X.getD t 0 = 0) {m : Nat} (h1 : 1 ≤ m) (h2 : m ≤ n) : wayB D a m t = false := by
  cases hw : wayB D a m t with
  | false => rfl
  | true =>
    obtain ⟨k, k1, k2, k3⟩ := fst_ex h1 hw
    by_cases hk : k < n
    · have k4 := k3.1
      rw [(h.zer t ht h0).2 k k1 hk] at k4
      cases k4
    · obtain rfl : k = n := by omega
      obtain ⟨q, rfl⟩ : ∃ q, k = q + 1 := ⟨k - 1, by omega⟩
      obtain ⟨u, h3, h4⟩ := fst_back hD k3
      exact absurd ⟨u, h3, h4⟩ (h.zer t ht h0).1
theorem bfs_next {D : List Dep} (hD : okD D = true) {a n : Nat} {X N : List Int} (h : Bfs D a n (allP D a n) X N) (hn : 1 ≤ n) : Front D a (n + 1) N ∧ Bfs D a (n + 1) (fun _ => False) X [] := by
  constructor
  · refine ⟨fun v => ?_, fun x hx => ⟨(h.nxt x hx).1, (h.nxt x hx).2.1⟩⟩
    unfold levB
    rw [if_neg (by omega), Nat.add_sub_cancel]
    constructor
    · intro hv
      obtain ⟨h1, h2, h3⟩ := h.nxt _ hv
      rw [Int.toNat_natCast] at h3
      obtain ⟨m, h4, h5, h6, h7, _⟩ := h.old v (by omega) (by omega)
      have : m = n := by omega
      rwa [this] at h7
    · intro hf
      have hv := way_lt hD hn hf.1
      by_cases h0 : X.getD v 0 = 0
      · have hf4 := hf.1
        rw [h.found hD hn hv h0 hn (Nat.le_refl _)] at hf4
        cases hf4
      · obtain ⟨m, h4, h5, h6, h7, h8⟩ := h.old v hv h0
        exact h8 (dist_uniq (.inr ⟨h5, h7⟩) (.inr ⟨hn, hf⟩))
  · refine ⟨h.len, fun t ht hx => ?_, fun t ht hx => ⟨fun e => e, fun m h1 h2 => h.found hD hn ht hx h1 (by omega)⟩, fun x hx => (by cases hx), List.nodup_nil⟩
    obtain ⟨m, h1, h2, h3, h4, _⟩ := h.old t ht hx
    exact ⟨m, h1, h2, by omega, h4, fun e => by omega⟩
theorem lev_chain {D : List Dep} (hD : okD D = true) {a : Nat} : ∀ {k m t : Nat}, fstB D a (m + k) t → 1 ≤ m + k → ∃ v, levB D a m v
  | 0, m, t, h, h1 => ⟨t, by unfold levB; rw [if_neg (by omega)]; exact h⟩
  | k + 1, m, t, h, h1 => by
    obtain ⟨u, hu, _⟩ := fst_back hD (n := m + k) h
    by_cases h0 : m + k = 0
    · obtain rfl : m = 0 := by omega
      exact ⟨a, by unfold levB; rw [if_pos rfl]⟩
    · unfold levB at hu
      rw [if_neg h0] at hu
      exact lev_chain hD hu (by omega)
/-- All the least numbers of steps from a channel. -/
def distL (D : List Dep) (a : Nat) : List Int := (List.range 128).map fun t => (distD D a t : Int)
theorem distL_len (D : List Dep) (a : Nat) : (distL D a).length = 128 := by simp [distL]
theorem distL_at {D : List Dep} {a t : Nat} (h : t < 128) : (distL D a).getD t 0 = (distD D a t : Int) := by
  rw [List.getD_eq_getElem?_getD, distL, List.getElem?_map, List.getElem?_range h]; rfl
theorem list_extD {X Y : List Int} {n : Nat} (hX : X.length = n) (hY : Y.length = n) (h : ∀ t, t < n → X.getD t 0 = Y.getD t 0) : X = Y := by
  apply List.ext_getElem (by rw [hX, hY])
  intro i h1 h2
  have := h i (by omega)
  rw [List.getD_eq_getElem?_getD, List.getD_eq_getElem?_getD, List.getElem?_eq_getElem h1, List.getElem?_eq_getElem h2] at this
  exact this
theorem bfs_end {D : List Dep} (hD : okD D = true) {a n : Nat} {X : List Int} (h : Bfs D a n (fun _ => False) X []) (hf : Front D a n []) (hn : 1 ≤ n) : X = distL D a := by
  refine list_extD h.len (distL_len D a) fun t ht => ?_
  rw [distL_at ht]
  by_cases h0 : X.getD t 0 = 0
  · rw [h0]
    have : isDist D a t 0 := .inl ⟨rfl, fun m h1 => by
      cases hw : wayB D a m t with
      | false => rfl
      | true =>
        obtain ⟨k, k1, k2, k3⟩ := fst_ex h1 hw
        by_cases hk : k < n
        · have k4 := k3.1
          rw [(h.zer t ht h0).2 k k1 hk] at k4
          cases k4
        · obtain ⟨v, hv⟩ := lev_chain hD (k := k - (n - 1)) (m := n - 1) (t := t) (by rw [show n - 1 + (k - (n - 1)) = k by omega]; exact k3) (by omega)
          have := (hf.lev v).2 hv
          cases this⟩
    rw [dist_of hD this]
    rfl
  · obtain ⟨m, h1, h2, h3, h4, _⟩ := h.old t ht h0
    rw [h1, dist_of hD (.inr ⟨h2, h4⟩)]
/-- A front that is not empty is at a level of at most 129. -/
theorem front_le {D : List Dep} (hD : okD D = true) {a n : Nat} {F : List Int} (h : Front D a n F) (hF : 0 < F.length) : n ≤ 129 := by
  cases F with
  | nil => simp at hF
  | cons x F =>
    have hr := h.rng x (List.mem_cons_self ..)
    have h1 := (h.lev x.toNat).1 (by rw [Int.toNat_of_nonneg hr.1]; exact List.mem_cons_self ..)
    unfold levB at h1
    by_cases h0 : n - 1 = 0
    · omega
    · rw [if_neg h0] at h1
      have := fst_le hD h1
      omega
/-- What was looked at behind i channels of the front and k successors of the next one. -/
def seenP (D : List Dep) (F : List Int) (i : Nat) (S : List Int) (k : Nat) (t : Nat) : Prop := (∃ j, j < i ∧ edgeB D (F.getD j 0).toNat t = true) ∨ (∃ j, j < k ∧ S.getD j 0 = (t : Int))
theorem seen_one {D : List Dep} {F : List Int} {i : Nat} {S : List Int} {k s : Nat} (hs : S.getD k 0 = (s : Int)) : ∀ t, t < 128 → seenP D F i S (k + 1) t → (seenP D F i S k t ∨ t = s) := fun t _ h => by
  rcases h with h | ⟨j, hj, he⟩
  · exact .inl (.inl h)
  · rcases Nat.lt_succ_iff_lt_or_eq.1 hj with hj | rfl
    · exact .inl (.inr ⟨j, hj, he⟩)
    · right; omega
theorem seen_row {D : List Dep} {F : List Int} {i : Nat} {x : Nat} (hx : F.getD i 0 = (x : Int)) : ∀ t, t < 128 → seenP D F (i + 1) [] 0 t → seenP D F i (succD D (x : Int)) (succD D (x : Int)).length t := fun t _ h => by
  rcases h with ⟨j, hj, he⟩ | ⟨j, hj, _⟩
  · rcases Nat.lt_succ_iff_lt_or_eq.1 hj with hj | rfl
    · exact .inl ⟨j, hj, he⟩
    · rw [hx, Int.toNat_natCast, edge_succ] at he
      obtain ⟨q, hq, e⟩ := List.getElem_of_mem he
      refine .inr ⟨q, hq, ?_⟩
      rw [List.getD_eq_getElem?_getD, List.getElem?_eq_getElem hq, e]
      rfl
  · omega
theorem seen_begin {D : List Dep} {F : List Int} {i : Nat} {S : List Int} : ∀ t, t < 128 → seenP D F i S 0 t → seenP D F i [] 0 t := fun t _ h => by
  rcases h with h | ⟨j, hj, _⟩
  · exact .inl h
  · omega
theorem seen_zero {D : List Dep} {F : List Int} : ∀ t, t < 128 → seenP D F 0 [] 0 t → False := fun t _ h => by
  rcases h with ⟨j, hj, _⟩ | ⟨j, hj, _⟩ <;> omega
theorem seen_all {D : List Dep} {a n : Nat} {F : List Int} (hF : Front D a n F) : ∀ t, t < 128 → allP D a n t → seenP D F F.length [] 0 t := fun t _ h => by
  obtain ⟨u, h1, h2⟩ := h
  obtain ⟨q, hq, e⟩ := List.getElem_of_mem ((hF.lev u).2 h1)
  refine .inl ⟨q, hq, ?_⟩
  rw [List.getD_eq_getElem?_getD, List.getElem?_eq_getElem hq, e]
  simpa using h2
/-- A successor of a channel of the front is reached at its level. -/
theorem front_way {D : List Dep} (hD : okD D = true) {a n : Nat} {F : List Int} (hF : Front D a n F) (hn : 1 ≤ n) {x s : Nat} (hx : (x : Int) ∈ F) (hs : (s : Int) ∈ succD D (x : Int)) : wayB D a n s = true := by
  obtain ⟨m, rfl⟩ : ∃ m, n = m + 1 := ⟨n - 1, by omega⟩
  refine (wayB_next hD).2 ⟨x, ?_, edge_succ.2 hs⟩
  have h1 := (hF.lev x).1 hx
  rw [Nat.add_sub_cancel] at h1
  unfold levB at h1
  split at h1
  · rename_i h0
    rw [h0]
    exact wayB_zero.2 h1
  · exact h1.1
end Go.Proofs.Ytnielgpcfgfioaa
