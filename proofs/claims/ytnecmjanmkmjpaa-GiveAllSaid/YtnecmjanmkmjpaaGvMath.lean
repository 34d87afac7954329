/-
  Chapter 17 as mathematics: who gives a frame. No program is named here.
-/
namespace Go.Proofs.Ytnecmjanmkmjpaa.GvM

/-- Place j is not need's, it has some, and of n places nobody but need has more. -/
def ok (n : Nat) (H : Nat → Int) (need : Int) (j : Nat) : Prop := (j : Int) ≠ need ∧ H j ≠ 0 ∧ ∀ k, k < n → (k : Int) ≠ need → H k ≤ H j
instance (n : Nat) (H : Nat → Int) (need : Int) (j : Nat) : Decidable (ok n H need j) := by unfold ok; infer_instance
def scan (n : Nat) (H : Nat → Int) (need : Int) : Nat → Nat → Int
  | 0, _ => -1
  | g + 1, j => if ok n H need j then (j : Int) else scan n H need g (j + 1)
/-- The first place that is so, or -1. -/
def most (n : Nat) (H : Nat → Int) (need : Int) : Int := scan n H need n 0
/-- Who gives: a free one ahead of an idle one. -/
def frm (n : Nat) (F I : Nat → Int) (need : Int) : Int := if most n F need = -1 then most n I need else most n F need

section
variable {n : Nat} {H F I : Nat → Int} {need : Int}
theorem scan_ok {g j : Nat} (h : ok n H need j) : scan n H need (g + 1) j = (j : Int) := if_pos h
theorem scan_no {g j : Nat} (h : ¬ ok n H need j) : scan n H need (g + 1) j = scan n H need g (j + 1) := if_neg h
theorem scan_spec : ∀ g j, (∃ i, j ≤ i ∧ i < j + g ∧ scan n H need g j = (i : Int) ∧ ok n H need i) ∨ (scan n H need g j = -1 ∧ ∀ i, j ≤ i → i < j + g → ¬ ok n H need i) := by
  intro g
  induction g with
  | zero => intro j; exact .inr ⟨rfl, fun i h1 h2 => by omega⟩
  | succ g ih =>
    intro j
    by_cases h : ok n H need j
    · exact .inl ⟨j, Nat.le_refl _, by omega, scan_ok h, h⟩
    · rw [scan_no h]
      rcases ih (j + 1) with ⟨i, h1, h2, h3, h4⟩ | ⟨h1, h2⟩
      · exact .inl ⟨i, by omega, by omega, h3, h4⟩
      · refine .inr ⟨h1, fun i h3 h4 => ?_⟩
        by_cases e : i = j
        · subst e; exact h
        · exact h2 i (by omega) (by omega)
theorem most_spec : (∃ i, i < n ∧ most n H need = (i : Int) ∧ ok n H need i) ∨ (most n H need = -1 ∧ ∀ i, i < n → ¬ ok n H need i) := by
  rcases scan_spec (n := n) (H := H) (need := need) n 0 with ⟨i, _, h2, h3, h4⟩ | ⟨h1, h2⟩
  · exact .inl ⟨i, by omega, h3, h4⟩
  · exact .inr ⟨h1, fun i hi => h2 i (Nat.zero_le _) (by omega)⟩
/-- Of those that there are, one has the most. -/
theorem top : ∀ m : Nat, (∃ k : Nat, k < m ∧ (k : Int) ≠ need ∧ 0 < H k) → ∃ j : Nat, j < m ∧ (j : Int) ≠ need ∧ 0 < H j ∧ ∀ k : Nat, k < m → (k : Int) ≠ need → H k ≤ H j := by
  intro m
  induction m with
  | zero => rintro ⟨k, hk, _⟩; omega
  | succ m ih =>
    rintro ⟨k, hk, hn, hp⟩
    by_cases hm : (m : Int) ≠ need ∧ 0 < H m ∧ ∀ k : Nat, k < m → (k : Int) ≠ need → H k ≤ H m
    · obtain ⟨h1, h2, h3⟩ := hm
      refine ⟨m, by omega, h1, h2, fun i hi hne => ?_⟩
      by_cases e : i = m
      · subst e; exact Int.le_refl _
      · exact h3 i (by omega) hne
    · have hex : ∃ k : Nat, k < m ∧ (k : Int) ≠ need ∧ 0 < H k := by
        by_cases e : k = m
        · subst e
          refine Decidable.byContradiction fun hno => hm ⟨hn, hp, fun i hi hne => ?_⟩
          refine Decidable.byContradiction fun hlt => hno ⟨i, hi, hne, by omega⟩
        · exact ⟨k, by omega, hn, hp⟩
      obtain ⟨j, h1, h2, h3, h4⟩ := ih hex
      refine ⟨j, by omega, h2, h3, fun i hi hne => ?_⟩
      by_cases e : i = m
      · subst e
        refine Decidable.byContradiction fun hlt => hm ⟨hne, by omega, fun k hk hkn => ?_⟩
        have := h4 k hk hkn
        omega
      · exact h4 i (by omega) hne
/-- Who is told, of numbers not below 0. -/
theorem most_has (h0 : ∀ k, k < n → 0 ≤ H k) : (∃ j, j < n ∧ most n H need = (j : Int) ∧ (j : Int) ≠ need ∧ 0 < H j ∧ ∀ k, k < n → (k : Int) ≠ need → H k ≤ H j) ∨ (most n H need = -1 ∧ ∀ k, k < n → (k : Int) ≠ need → H k = 0) := by
  rcases most_spec (n := n) (H := H) (need := need) with ⟨i, h1, h2, h3, h4, h5⟩ | ⟨h1, h2⟩
  · exact .inl ⟨i, h1, h2, h3, by have := h0 i h1; omega, h5⟩
  · refine .inr ⟨h1, fun k hk hne => ?_⟩
    refine Decidable.byContradiction fun h => ?_
    obtain ⟨j, j1, j2, j3, j4⟩ := top (H := H) (need := need) n ⟨k, hk, hne, by have := h0 k hk; omega⟩
    exact h2 j j1 ⟨j2, by omega, j4⟩
theorem frm_spec (h0 : ∀ k, k < n → 0 ≤ F k) (h1 : ∀ k, k < n → 0 ≤ I k) :
    (∃ j, j < n ∧ frm n F I need = (j : Int) ∧ (j : Int) ≠ need ∧
      ((0 < F j ∧ ∀ k, k < n → (k : Int) ≠ need → F k ≤ F j) ∨ ((∀ k, k < n → (k : Int) ≠ need → F k = 0) ∧ 0 < I j ∧ ∀ k, k < n → (k : Int) ≠ need → I k ≤ I j))) ∨
    (frm n F I need = -1 ∧ ∀ k, k < n → (k : Int) ≠ need → F k = 0 ∧ I k = 0) := by
  unfold frm
  rcases most_has (need := need) h0 with ⟨j, j1, j2, j3, j4, j5⟩ | ⟨a1, a2⟩
  · rw [if_neg (by rw [j2]; omega)]
    exact .inl ⟨j, j1, j2, j3, .inl ⟨j4, j5⟩⟩
  · rw [if_pos a1]
    rcases most_has (need := need) h1 with ⟨j, j1, j2, j3, j4, j5⟩ | ⟨b1, b2⟩
    · exact .inl ⟨j, j1, j2, j3, .inr ⟨a2, j4, j5⟩⟩
    · exact .inr ⟨b1, fun k hk hne => ⟨a2 k hk hne, b2 k hk hne⟩⟩
end
end Go.Proofs.Ytnecmjanmkmjpaa.GvM
