/- What is proved here: a route turned back leads back along the same nodes, and turned back twice it is the route again; a table's walk is a route that visits no node twice; as mathematics, nothing of the program. -/
import Derived.Test.YtpcmkilaapjaaaaRouteM
import Derived.Test.YtpcmkilaapjaaaaNeighM
namespace Go.Proofs.Ytpcmkilaapjaaaa
open Go.ChangeShapes Go.WideShapes Go.ChangeAt Go.RowKit
set_option linter.unusedVariables false

section
variable {W H : Int} {L r : List Int}
/-- The channel back of a channel that leads somewhere. -/
theorem back_lead {c : Int} (h0 : 0 ≤ c) (h1 : c < 4 * countG W H) (h2 : 0 ≤ endC W H c) : leadsG W H (backC W H c) = true ∧ backC W H c / 4 = endC W H c ∧ endC W H (backC W H c) = c / 4 ∧ backC W H (backC W H c) = c := by
  have ha : hasG W H (c / 4) = true := hasG_iff.2 ⟨by omega, by omega⟩
  obtain ⟨b, o, hb, ho, o0, o3, _, hoo, hbk, _⟩ := neigh_fact (q := c % 4) ha (by omega) (by omega)
  have he : endC W H c = b := hb
  have hbb : backC W H c = 4 * b + o := by rw [backC, he, ho]
  rw [he] at h2 ⊢
  have h4 : (4 * b + o) / 4 = b := by omega
  have h5 : (4 * b + o) % 4 = o := by omega
  have h6 : endC W H (4 * b + o) = c / 4 := by rw [endC, h4, h5]; exact (hbk h2).1
  have hh := (hasG_iff.1 (next_has (W := W) (H := H) (n := c / 4) (p := c % 4) (by rw [hb]; exact h2))).2
  rw [hb] at hh
  rw [hbb]
  refine ⟨?_, h4, h6, ?_⟩
  · have h7 : 0 ≤ nextG W H ((4 * b + o) / 4) ((4 * b + o) % 4) := by show 0 ≤ endC W H (4 * b + o); rw [h6]; omega
    simp only [leadsG, decide_eq_true_eq]
    exact ⟨by omega, by omega, h7⟩
  · rw [backC, h6, h5, hoo]; omega
theorem back_has {c : Int} (h : hasChG W H L c = true) : leadsG W H (backC W H c) = true ∧ backC W H c / 4 = endC W H c ∧ endC W H (backC W H c) = c / 4 ∧ backC W H (backC W H c) = c := by
  obtain ⟨h0, h1, h2⟩ := has_leads h
  exact back_lead h0 h1 h2
theorem route_at (h : routeG W H L r = true) {j : Nat} (hj : j < r.length) : hasChG W H L (r.getD j 0) = true ∧ r.getD j 0 / 4 = atR W H r j := by
  have hl := (route_all h).2.2 j hj
  have hh := link_has hl
  refine ⟨hh, ?_⟩
  rw [link_at rfl hh] at hl
  exact of_decide_eq_true hl
theorem nodes_at (h : routeG W H L r = true) {j : Nat} (hj : j ≤ r.length) : (nodesG W H L r).getD j 0 = atR W H r j := by
  rw [nodes_yes h, nodesTo, List.take_of_length_le (Nat.le_refl _)]
  cases j with
  | zero => rfl
  | succ j => rw [atR_succ, List.getD_cons_succ, List.getD_eq_getElem?_getD, List.getElem?_map, List.getD_eq_getElem?_getD, List.getElem?_eq_getElem (by omega)]; rfl
theorem rev_get (hn : 0 < r.length) {j : Nat} (hj : j < r.length) : (r.reverse.map (backC W H)).getD j 0 = backC W H (r.getD (r.length - 1 - j) 0) := by
  rw [List.getD_eq_getElem?_getD, List.getElem?_map, List.getElem?_reverse hj, List.getD_eq_getElem?_getD, List.getElem?_eq_getElem (by omega)]; rfl
theorem backOk_all (h : backOk W H L r = true) : routeG W H L r = true ∧ ∀ j, j < r.length → hasChG W H L (backC W H (r.getD j 0)) = true := by
  simp only [backOk, Bool.and_eq_true, List.all_eq_true] at h
  refine ⟨h.1, fun j hj => h.2 _ ?_⟩
  rw [List.getD_eq_getElem?_getD, List.getElem?_eq_getElem hj]
  exact List.getElem_mem hj
/-- The route back. -/
theorem back_route (h : backOk W H L r = true) : routeG W H L (backG W H L r) = true ∧ (backG W H L r).length = r.length ∧
    (∀ j, j < r.length → (backG W H L r).getD j 0 = backC W H (r.getD (r.length - 1 - j) 0)) ∧ ∀ j, j ≤ r.length → atR W H (backG W H L r) j = atR W H r (r.length - j) := by
  obtain ⟨hr, hb⟩ := backOk_all h
  have hn := route_pos hr
  have hB : backG W H L r = r.reverse.map (backC W H) := if_pos h
  have hlen : (backG W H L r).length = r.length := by rw [hB]; simp
  have hg : ∀ j, j < r.length → (backG W H L r).getD j 0 = backC W H (r.getD (r.length - 1 - j) 0) := fun j hj => by rw [hB]; exact rev_get hn hj
  have hat : ∀ j, j ≤ r.length → atR W H (backG W H L r) j = atR W H r (r.length - j) := fun j hj => by
    cases j with
    | zero =>
      rw [atR, if_pos rfl, hg 0 hn, (back_has (route_at hr (j := r.length - 1 - 0) (by omega)).1).2.1, atR, if_neg (by omega)]
      congr 2
    | succ j =>
      obtain ⟨q1, q2⟩ := route_at hr (j := r.length - 1 - j) (by omega)
      rw [atR_succ, hg j (by omega), (back_has q1).2.2.1, q2]
      congr 1
      omega
  refine ⟨route_yes (route_all hr).1 (by omega) (fun j hj => ?_), hlen, hg, hat⟩
  rw [hlen] at hj
  have q1 := (route_at hr (j := r.length - 1 - j) (by omega)).1
  rw [link_at (hg j hj) (hb _ (by omega)), hat j (by omega), (back_has q1).2.1, atR, if_neg (by omega)]
  refine decide_eq_true ?_
  congr 2
  omega
theorem back_back (h : backOk W H L r = true) : backOk W H L (backG W H L r) = true ∧ backG W H L (backG W H L r) = r := by
  obtain ⟨hr, hb⟩ := backOk_all h
  obtain ⟨h1, h2, h3, h4⟩ := back_route h
  have hall : backsTo W H L (backG W H L r) (backG W H L r).length := fun j hj => by
    rw [h2] at hj
    rw [h2, h3 _ (by omega)]
    have q1 := (route_at hr (j := r.length - 1 - (r.length - 1 - j)) (by omega)).1
    rw [(back_has q1).2.2.2]
    exact q1
  have hk := backOk_yes h1 hall
  refine ⟨hk, ?_⟩
  obtain ⟨_, g2, g3, _⟩ := back_route hk
  refine List.ext_getElem (by rw [g2, h2]) fun i i1 i2 => ?_
  have e1 := g3 i (by rw [h2]; omega)
  rw [h2, h3 _ (by omega)] at e1
  have q1 := (route_at hr (j := r.length - 1 - (r.length - 1 - i)) (by omega)).1
  rw [(back_has q1).2.2.2] at e1
  rw [List.getD_eq_getElem?_getD, List.getD_eq_getElem?_getD, List.getElem?_eq_getElem (by omega), List.getElem?_eq_getElem (by omega)] at e1
  simp only [Option.getD_some] at e1
  rw [e1]
  congr 1
  omega
theorem back_round (h : backOk W H L r = true) : routeG W H L (r ++ backG W H L r) = true := by
  obtain ⟨hr, hb⟩ := backOk_all h
  obtain ⟨h1, h2, h3, h4⟩ := back_route h
  have ga : ∀ j, j < r.length → (r ++ backG W H L r).getD j 0 = r.getD j 0 := fun j hj => by
    rw [List.getD_eq_getElem?_getD, List.getD_eq_getElem?_getD, List.getElem?_append_left hj]
  have gb : ∀ j, (r ++ backG W H L r).getD (r.length + j) 0 = (backG W H L r).getD j 0 := fun j => by
    rw [List.getD_eq_getElem?_getD, List.getD_eq_getElem?_getD, List.getElem?_append_right (by omega), Nat.add_sub_cancel_left]
  refine route_yes (route_all hr).1 (by rw [List.length_append]; have := route_pos hr; omega) (fun i hi => ?_)
  rw [List.length_append, h2] at hi
  have hn := route_pos hr
  rcases Nat.lt_or_ge i r.length with hlt | hge
  · obtain ⟨q1, q2⟩ := route_at hr hlt
    rw [link_at (ga i hlt) q1, q2]
    refine decide_eq_true ?_
    cases i with
    | zero => rw [atR, atR, if_pos rfl, if_pos rfl, ga 0 hn]
    | succ i => rw [atR_succ, atR_succ, ga i (by omega)]
  · obtain ⟨j, rfl⟩ : ∃ j, i = r.length + j := ⟨i - r.length, by omega⟩
    obtain ⟨q1, q2⟩ := route_at h1 (j := j) (by omega)
    rw [link_at (gb j) q1, q2]
    refine decide_eq_true ?_
    rw [h4 j (by omega)]
    cases j with
    | zero =>
      have : r.length - 0 = r.length := by omega
      rw [this]
      obtain ⟨m, hm⟩ : ∃ m, r.length = m + 1 := ⟨r.length - 1, by omega⟩
      rw [Nat.add_zero, hm, atR_succ, atR_succ, ga m (by omega)]
    | succ j =>
      rw [show r.length + (j + 1) = (r.length + j) + 1 by omega, atR_succ, gb j, ← atR_succ, h4 (j + 1) (by omega)]
/-- Without broken channels every route can be turned back. -/
theorem back_free (h : routeG W H [] r = true) : backOk W H [] r = true := by
  refine backOk_yes h (fun j hj => ?_)
  have q1 := (route_at h (j := r.length - 1 - j) (by omega)).1
  simp only [hasChG, (back_has q1).1, inG]
  rfl

/-- A list grows by a channel that begins where it has led. -/
theorem links_push {c : Int} (h : linksTo W H L r r.length) (hc : hasChG W H L c = true) (hx : 0 < r.length → c / 4 = atR W H r r.length) :
    linksTo W H L (r ++ [c]) (r ++ [c]).length ∧ atR W H (r ++ [c]) (r ++ [c]).length = endC W H c := by
  have ga : ∀ j, j < r.length → (r ++ [c]).getD j 0 = r.getD j 0 := fun j hj => by
    rw [List.getD_eq_getElem?_getD, List.getD_eq_getElem?_getD, List.getElem?_append_left hj]
  have gc : (r ++ [c]).getD r.length 0 = c := by
    rw [List.getD_eq_getElem?_getD, List.getElem?_append_right (Nat.le_refl _), Nat.sub_self]; rfl
  have hl : (r ++ [c]).length = r.length + 1 := by simp
  refine ⟨?_, by rw [hl, atR_succ, gc]⟩
  rw [hl]
  refine links_succ (fun j hj => ?_) ?_
  · have := h j hj
    cases j with
    | zero => rw [linkG, ga 0 hj]; rw [linkG] at this; simpa using this
    | succ j => rw [linkG, ga _ hj, Nat.add_sub_cancel, ga j (by omega)]; rw [linkG, Nat.add_sub_cancel] at this; exact this
  · rw [link_at gc hc]
    refine decide_eq_true ?_
    rcases Nat.eq_zero_or_pos r.length with h0 | h0
    · rw [h0, atR, if_pos rfl]
      rw [h0] at gc
      rw [gc]
    · rw [hx h0]
      obtain ⟨m, hm⟩ : ∃ m, r.length = m + 1 := ⟨r.length - 1, by omega⟩
      rw [hm, atR_succ, atR_succ, ga m (by omega)]

variable {P : List Int}
/-- A walk of a table, channel by channel. -/
theorem walk_cases {z a : Int} {f : Nat} {l : List Int} (h : walkF W H L P z (f + 1) a = some l) :
    (l = [] ∧ a = z) ∨ ∃ c t, l = c :: t ∧ c = 4 * a + tabG (countG W H) P a z ∧ hasChG W H L c = true ∧ c / 4 = a ∧ c % 4 = tabG (countG W H) P a z ∧ walkF W H L P z f (endC W H c) = some t := by
  rw [walkF] at h
  split at h
  · split at h
    · rename_i e
      cases h
      exact .inl ⟨rfl, e⟩
    · cases h
  · split at h
    · rename_i h4 hs
      rw [Option.map_eq_some_iff] at h
      obtain ⟨t, ht, rfl⟩ := h
      obtain ⟨p0, p3, hc⟩ := steps_next hs
      have e1 : (4 * a + tabG (countG W H) P a z) / 4 = a := by omega
      have e2 : (4 * a + tabG (countG W H) P a z) % 4 = tabG (countG W H) P a z := by omega
      exact .inr ⟨_, t, rfl, rfl, hc, e1, e2, by rw [endC, e1, e2]; exact ht⟩
    · cases h
theorem walk_det {z : Int} : ∀ (f g : Nat) (a : Int) (l m : List Int), walkF W H L P z f a = some l → walkF W H L P z g a = some m → l = m
  | 0, _, _, _, _, h, _ => by simp [walkF] at h
  | _ + 1, 0, _, _, _, _, h => by simp [walkF] at h
  | f + 1, g + 1, a, l, m, h1, h2 => by
    rw [walkF] at h1 h2
    split at h1
    · rename_i h4
      rw [if_pos h4] at h2
      split at h1
      · rename_i e
        rw [if_pos e] at h2
        cases h1; cases h2; rfl
      · cases h1
    · rename_i h4
      rw [if_neg h4] at h2
      split at h1
      · rename_i hs
        rw [if_pos hs] at h2
        rw [Option.map_eq_some_iff] at h1 h2
        obtain ⟨t, ht, rfl⟩ := h1
        obtain ⟨u, hu, rfl⟩ := h2
        rw [walk_det f g _ t u ht hu]
      · cases h1
/-- What lies behind the first j channels of a walk is the walk from where they lead. -/
theorem walk_drop {z : Int} : ∀ (f : Nat) (a : Int) (l : List Int), walkF W H L P z f a = some l → ∀ j, j ≤ l.length →
    ∃ g, walkF W H L P z g (if j = 0 then a else endC W H (l.getD (j - 1) 0)) = some (l.drop j)
  | 0, _, _, h, _, _ => by simp [walkF] at h
  | f + 1, a, l, h, 0, _ => ⟨f + 1, by rw [if_pos rfl]; exact h⟩
  | f + 1, a, l, h, j + 1, hj => by
    rcases walk_cases h with ⟨rfl, _⟩ | ⟨c, t, rfl, _, _, _, _, ht⟩
    · simp at hj
    · obtain ⟨g, hg⟩ := walk_drop f _ t ht j (by simpa using hj)
      refine ⟨g, ?_⟩
      rw [if_neg (by omega), Nat.add_sub_cancel, List.drop_succ_cons]
      cases j with
      | zero => rw [if_pos rfl] at hg; exact hg
      | succ j => rw [if_neg (by omega), Nat.add_sub_cancel] at hg; rw [List.getD_cons_succ]; exact hg
theorem walk_links {z : Int} : ∀ (f : Nat) (a : Int) (l : List Int), walkF W H L P z f a = some l → linksTo W H L l l.length ∧ (0 < l.length → l.getD 0 0 / 4 = a ∧ l.getD 0 0 % 4 = tabG (countG W H) P a z ∧ atR W H l l.length = z) ∧ (l = [] → a = z)
  | 0, _, _, h => by simp [walkF] at h
  | f + 1, a, l, h => by
    rcases walk_cases h with ⟨rfl, e⟩ | ⟨c, t, rfl, hc, hh, h4, h5, ht⟩
    · exact ⟨links_zero, fun h => absurd h (by simp), fun _ => e⟩
    · obtain ⟨h1, h2, h3⟩ := walk_links f _ t ht
      refine ⟨fun j hj => ?_, fun _ => ⟨h4, h5, ?_⟩, fun e => by cases e⟩
      · cases j with
        | zero => exact link_first rfl hh
        | succ j =>
          have hj' : j < t.length := by simpa using hj
          have q := h1 j hj'
          have qh := link_has q
          rw [link_next (c := t.getD j 0) (x := endC W H ((c :: t).getD j 0)) (by rw [List.getD_cons_succ]) rfl qh]
          refine decide_eq_true ?_
          cases j with
          | zero => exact (h2 (by omega)).1
          | succ j =>
            rw [link_at rfl qh, atR_succ] at q
            rw [List.getD_cons_succ]
            exact of_decide_eq_true q
      · rw [List.length_cons, atR_succ]
        cases t with
        | nil => exact h3 rfl
        | cons d u =>
          have q := (h2 (by simp)).2.2
          rw [List.length_cons, atR_succ] at q
          rw [List.length_cons, List.getD_cons_succ]
          exact q
theorem walk_free {z a : Int} {f : Nat} {l : List Int} (h : walkF W H L P z f a = some l) (hm : meshG W H L = true) (h0 : 0 < l.length) : routeG W H L l = true ∧ freeG (nodesG W H L l) = true := by
  obtain ⟨h1, h2, _⟩ := walk_links f a l h
  have hr := route_yes hm h0 h1
  refine ⟨hr, ?_⟩
  have hlen := nodes_len hr
  rw [free_yes, hlen]
  · simp
  · intro i hi
    rw [hlen] at hi
    refine free_at (b := false) rfl (inG_no fun j hj => ?_)
    rw [List.length_take, hlen] at hj
    have hji : j < i := by omega
    rw [List.getD_eq_getElem?_getD, List.getElem?_take_of_lt hji, ← List.getD_eq_getElem?_getD, nodes_at hr (by omega), nodes_at hr (by omega)]
    intro e
    have hat : ∀ k, k ≤ l.length → (if k = 0 then a else endC W H (l.getD (k - 1) 0)) = atR W H l k := fun k hk => by
      unfold atR
      split
      · exact (h2 h0).1.symm
      · rfl
    obtain ⟨g1, w1⟩ := walk_drop f a l h j (by omega)
    obtain ⟨g2, w2⟩ := walk_drop f a l h i (by omega)
    rw [hat j (by omega), e] at w1
    rw [hat i (by omega)] at w2
    have := congrArg List.length (walk_det g1 g2 _ _ _ w1 w2)
    rw [List.length_drop, List.length_drop] at this
    omega
end
end Go.Proofs.Ytpcmkilaapjaaaa
