/- What is proved here: a ring with a dateline has no cycle of dependencies; one without has one exactly if it has three nodes or more; nothing of the program. -/
import Derived.Test.YtnielgpcfgfioaaRingM
import Derived.Test.YtnielgpcfgfioaaPathM
namespace Go.Proofs.Ytnielgpcfgfioaa
open Go.ChangeShapes Go.WideShapes Go.ChangeAt Go.RowKit
set_option linter.unusedVariables false

/-- Dependencies that all lead upwards have no cycle. -/
theorem up_way {D : List Dep} (hD : okD D = true) (hu : ∀ d ∈ D, d.1 < d.2) {a : Nat} : ∀ {n b : Nat}, wayB D a (n + 1) b = true → a < b
  | 0, b, h => by
    have := hu _ (edge_iff.1 ((way_one hD).1 h))
    simp only at this
    omega
  | n + 1, b, h => by
    obtain ⟨u, h1, h2⟩ := (wayB_next hD).1 h
    have h3 := up_way hD hu h1
    have h4 := hu _ (edge_iff.1 h2)
    simp only at h4
    omega
theorem up_none {D : List Dep} (hD : okD D = true) (hu : ∀ d ∈ D, d.1 < d.2) : hasCyc D = false := by
  rcases cyc_facts hD with ⟨h, _⟩ | ⟨st, b, h, _, hb, h1, _⟩
  · rw [hasCyc, h]; rfl
  · exfalso
    have h2 := dist_pos hD (a := st) (b := st) (by omega)
    obtain ⟨m, hm⟩ : ∃ m, distD D st st = m + 1 := ⟨distD D st st - 1, by omega⟩
    rw [hm] at h2
    have := up_way hD hu h2
    omega
/-- A way that leads back is a cycle. -/
theorem has_of {D : List Dep} (hD : okD D = true) {c n : Nat} (hn : 1 ≤ n) (hc : c < 128) (h : wayB D c n c = true) : hasCyc D = true := by
  have h1 := (dist_way hD hn h).1
  rcases cyc_facts hD with ⟨_, h2⟩ | ⟨st, b, h2, _, _, h3, _⟩
  · have := h2 c hc; omega
  · rw [hasCyc, h2, cyc_len]
    exact decide_eq_true (by omega)
theorem ring_up {n : Nat} (h1 : 2 ≤ n) (h2 : n ≤ 12) : ∀ d ∈ ringD n true, d.1 < d.2 := fun d hd => by
  rw [ringD_nat h1 h2] at hd
  obtain ⟨k, t, h3, h4, rfl⟩ := mem_ringTo.1 hd
  have h5 := hopN_lt (n := n) (a := k / n) (b := k % n) (by omega)
  have h6 := div_lt h3
  rcases pair_is (d := true) h6 (show t + 1 < n by omega) with ⟨h, e⟩ | ⟨h, e⟩ | ⟨h, h', e⟩ <;> rw [e] <;> simp <;> omega
theorem ring_line {n : Nat} (h1 : 2 ≤ n) (h2 : n ≤ 12) : hasCyc (ringD n true) = false := up_none (ringD_ok _ _) (ring_up h1 h2)
theorem ring_two (d : Bool) : hasCyc (ringD 2 d) = false := up_none (ringD_ok _ _) fun x hx => by
  have hx' : x ∈ ringD ((2 : Nat) : Int) d := hx
  rw [ringD_nat (by omega) (by omega)] at hx'
  obtain ⟨k, t, h3, h4, _⟩ := mem_ringTo.1 hx'
  have h5 := hopN_lt (n := 2) (a := k / 2) (b := k % 2) (by omega)
  omega
/-- Without a dateline, each channel leads to the next. -/
theorem ring_edge {n i : Nat} (h1 : 3 ≤ n) (h2 : n ≤ 12) (hi : i < n) : edgeB (ringD n false) i ((i + 1) % n) = true := by
  rw [edge_iff, ringD_nat (by omega) h2, mem_ringTo]
  have hb : (i + 2) % n < n := Nat.mod_lt _ (by omega)
  obtain ⟨e1, e2⟩ := pair_no (a := i) hb
  refine ⟨i * n + (i + 2) % n, 0, pair_lt hi hb, ?_, ?_⟩
  · rw [e1, e2]
    have h3 : hopN n i ((i + 2) % n) = 2 := by
      rw [hopN_cases hi hb]
      rcases Nat.lt_or_ge (i + 2) n with h | h
      · rw [Nat.mod_eq_of_lt h]; split <;> omega
      · rw [show i + 2 = i + 2 - n + n by omega, Nat.add_mod_right, Nat.mod_eq_of_lt (by omega)]; split <;> omega
    omega
  · rw [e1]
    rcases pair_is (d := false) hi (show 0 + 1 < n by omega) with ⟨h, e⟩ | ⟨h, e⟩ | ⟨h, h', e⟩
    · rw [e, Nat.mod_eq_of_lt (by omega)]; simp
    · rw [e, show i + 1 = n by omega, Nat.mod_self]; simp
    · omega
theorem ring_way {n : Nat} (h1 : 3 ≤ n) (h2 : n ≤ 12) : ∀ {k : Nat}, k < n → wayB (ringD n false) 0 k k = true
  | 0, _ => by rw [wayB_zero]
  | k + 1, hk => by
    refine (wayB_next (ringD_ok _ _)).2 ⟨k, ring_way h1 h2 (by omega), ?_⟩
    have := ring_edge h1 h2 (show k < n by omega)
    rwa [Nat.mod_eq_of_lt hk] at this
theorem ring_round {n : Nat} (h1 : 3 ≤ n) (h2 : n ≤ 12) : hasCyc (ringD n false) = true := by
  refine has_of (ringD_ok _ _) (c := 0) (n := n - 1 + 1) (by omega) (by omega) ((wayB_next (ringD_ok _ _)).2 ⟨n - 1, ring_way h1 h2 (by omega), ?_⟩)
  have := ring_edge h1 h2 (show n - 1 < n by omega)
  rwa [show n - 1 + 1 = n by omega, Nat.mod_self] at this
/-- Whether a ring is safe. -/
def ringS (n : Int) (d : Bool) : Bool := rinG n && !hasCyc (ringD n d)
theorem ringS_line {n : Nat} (h1 : 2 ≤ n) (h2 : n ≤ 12) : ringS n true = true := by
  rw [ringS, rinG_iff.2 (by omega), ring_line h1 h2]; rfl
theorem ringS_none {n : Nat} (h1 : 2 ≤ n) (h2 : n ≤ 12) : ringS n false = decide (n = 2) := by
  rw [ringS, rinG_iff.2 (by omega)]
  by_cases h : n = 2
  · subst h
    have := ring_two false
    rw [show ((2 : Nat) : Int) = 2 from rfl, this]; rfl
  · rw [ring_round (by omega) h2, decide_eq_false h]; rfl
end Go.Proofs.Ytnielgpcfgfioaa
