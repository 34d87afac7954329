/-
  Chapter 18 as mathematics: more frames, or less. No program is named here.
-/
namespace Go.Proofs.Ytomnkdfolonicaa.SzM

/-- Of m frames, what place j of n is to have. -/
def shr (m n j : Nat) : Int := ((m / n : Nat) : Int) + if j < m % n then 1 else 0
/-- What the first j have together. -/
def tot (H : Nat → Int) : Nat → Int
  | 0 => 0
  | j + 1 => tot H j + H j
def sgn (x : Int) : Int := if x < 0 then -1 else if 0 < x then 1 else 0
/-- The first of g places from j on whose number has the sign s. -/
def scan (S : Nat → Int) (s : Int) : Nat → Nat → Int
  | 0, _ => -1
  | g + 1, j => if sgn (S j) = s then (j : Int) else scan S s g (j + 1)
/-- Which place is next, while d are lacked. -/
def nx (S : Nat → Int) (d : Int) (n : Nat) : Int := if sgn d = 0 then -1 else scan S (sgn d) n 0
def nb (S : Nat → Int) (d : Int) (n : Nat) : Int := if nx S d n = -1 then 0 else sgn d

section
variable {m n j g : Nat} {H K S : Nat → Int} {x s d : Int}
theorem sgn_neg (h : x < 0) : sgn x = -1 := if_pos h
theorem sgn_pos (h : 0 < x) : sgn x = 1 := by unfold sgn; rw [if_neg (by omega), if_pos h]
theorem sgn_zero : sgn 0 = 0 := rfl
theorem sgn_neg_iff : sgn x = -1 ↔ x < 0 := by unfold sgn; split <;> (try split) <;> omega
theorem sgn_pos_iff : sgn x = 1 ↔ 0 < x := by unfold sgn; split <;> (try split) <;> omega
theorem sgn_zero_iff : sgn x = 0 ↔ x = 0 := by unfold sgn; split <;> (try split) <;> omega
theorem sgn_or : sgn x = -1 ∨ sgn x = 0 ∨ sgn x = 1 := by unfold sgn; split <;> (try split) <;> omega
theorem sgn_same {y : Int} (h1 : x < 0 ↔ y < 0) (h2 : 0 < x ↔ 0 < y) : sgn x = sgn y := by
  unfold sgn
  by_cases a : x < 0
  · rw [if_pos a, if_pos (h1.1 a)]
  · rw [if_neg a, if_neg fun h => a (h1.2 h)]
    by_cases b : 0 < x
    · rw [if_pos b, if_pos (h2.1 b)]
    · rw [if_neg b, if_neg fun h => b (h2.2 h)]
theorem scan_ok (h : sgn (S j) = s) : scan S s (g + 1) j = (j : Int) := if_pos h
theorem scan_no (h : ¬ sgn (S j) = s) : scan S s (g + 1) j = scan S s g (j + 1) := if_neg h
theorem scan_spec : ∀ g j, (∃ i, j ≤ i ∧ i < j + g ∧ scan S s g j = (i : Int) ∧ sgn (S i) = s) ∨ (scan S s g j = -1 ∧ ∀ i, j ≤ i → i < j + g → ¬ sgn (S i) = s) := by
  intro g
  induction g with
  | zero => intro j; exact .inr ⟨rfl, fun i h1 h2 => by omega⟩
  | succ g ih =>
    intro j
    by_cases h : sgn (S j) = s
    · exact .inl ⟨j, Nat.le_refl _, by omega, scan_ok h, h⟩
    · rw [scan_no h]
      rcases ih (j + 1) with ⟨i, h1, h2, h3, h4⟩ | ⟨h1, h2⟩
      · exact .inl ⟨i, by omega, by omega, h3, h4⟩
      · refine .inr ⟨h1, fun i h3 h4 => ?_⟩
        by_cases e : i = j
        · subst e; exact h
        · exact h2 i (by omega) (by omega)
theorem nx_zero : nx S 0 n = -1 ∧ nb S 0 n = 0 := by
  have h : nx S 0 n = -1 := if_pos sgn_zero
  exact ⟨h, if_pos h⟩
theorem nx_none (h : sgn d ≠ 0) (e : scan S (sgn d) n 0 = -1) : nx S d n = -1 ∧ nb S d n = 0 := by
  have h : nx S d n = -1 := (if_neg h).trans e
  exact ⟨h, if_pos h⟩
theorem nx_some (h : sgn d ≠ 0) (e : scan S (sgn d) n 0 = (j : Int)) : nx S d n = (j : Int) ∧ nb S d n = sgn d := by
  have h : nx S d n = (j : Int) := (if_neg h).trans e
  exact ⟨h, if_neg (by omega)⟩
theorem tot_succ : tot H (j + 1) = tot H j + H j := rfl
theorem tot_congr : ∀ {n : Nat}, (∀ j, j < n → H j = K j) → tot H n = tot K n
  | 0, _ => rfl
  | n + 1, h => by rw [tot_succ, tot_succ, tot_congr fun j hj => h j (by omega), h n (by omega)]
theorem tot_sub : ∀ n, tot (fun j => H j - K j) n = tot H n - tot K n
  | 0 => rfl
  | n + 1 => by rw [tot_succ, tot_succ, tot_succ, tot_sub n]; omega
theorem tot_mono (h : ∀ j, j < n → 0 ≤ H j) : ∀ {i j : Nat}, i ≤ j → j ≤ n → tot H i ≤ tot H j := by
  intro i j hij hj
  induction j with
  | zero => rw [show i = 0 by omega]; exact Int.le_refl _
  | succ j ih =>
    by_cases e : i = j + 1
    · rw [e]; exact Int.le_refl _
    · have := ih (by omega) (by omega)
      have := h j (by omega)
      rw [tot_succ]; omega
theorem tot_pos (h : 0 < tot S n) : ∃ j, j < n ∧ 0 < S j := by
  induction n with
  | zero => exact absurd h (Int.lt_irrefl 0)
  | succ n ih =>
    rw [tot_succ] at h
    by_cases e : 0 < S n
    · exact ⟨n, by omega, e⟩
    · obtain ⟨j, h1, h2⟩ := ih (by omega)
      exact ⟨j, by omega, h2⟩
theorem tot_neg (h : tot S n < 0) : ∃ j, j < n ∧ S j < 0 := by
  induction n with
  | zero => exact absurd h (Int.lt_irrefl 0)
  | succ n ih =>
    rw [tot_succ] at h
    by_cases e : S n < 0
    · exact ⟨n, by omega, e⟩
    · obtain ⟨j, h1, h2⟩ := ih (by omega)
      exact ⟨j, by omega, h2⟩
/-- While the number isn't right, one is next, and it leads there. -/
theorem nx_spec (h : tot S n ≠ 0) : ∃ j, j < n ∧ nx S (tot S n) n = (j : Int) ∧ nb S (tot S n) n = sgn (tot S n) ∧ sgn (S j) = sgn (tot S n) := by
  have h0 : sgn (tot S n) ≠ 0 := fun e => h (sgn_zero_iff.1 e)
  rcases scan_spec (S := S) (s := sgn (tot S n)) n 0 with ⟨i, _, h2, h3, h4⟩ | ⟨_, h2⟩
  · obtain ⟨e1, e2⟩ := nx_some h0 h3
    exact ⟨i, by omega, e1, e2, h4⟩
  · by_cases hp : 0 < tot S n
    · obtain ⟨j, j1, j2⟩ := tot_pos hp
      exact absurd ((sgn_pos j2).trans (sgn_pos hp).symm) (h2 j (Nat.zero_le _) (by omega))
    · have hp : tot S n < 0 := by omega
      obtain ⟨j, j1, j2⟩ := tot_neg hp
      exact absurd ((sgn_neg j2).trans (sgn_neg hp).symm) (h2 j (Nat.zero_le _) (by omega))
theorem shr_in (h : j < m % n) : shr m n j = ((m / n : Nat) : Int) + 1 := by unfold shr; rw [if_pos h]
theorem shr_out (h : m % n ≤ j) : shr m n j = ((m / n : Nat) : Int) := by unfold shr; rw [if_neg (by omega)]; exact Int.add_zero _
theorem shr_nonneg : 0 ≤ shr m n j := by
  have := Int.natCast_nonneg (m / n)
  unfold shr; split <;> omega
theorem shr_le (hm : m ≤ 32) : shr m n j ≤ 33 := by
  have : m / n ≤ m := Nat.div_le_self m n
  unfold shr; split <;> omega
theorem shr_near : shr m n 0 - shr m n j ≤ 1 ∧ shr m n j ≤ shr m n 0 := by
  unfold shr
  by_cases h : j < m % n
  · rw [if_pos h, if_pos (by omega)]; omega
  · rw [if_neg h]; split <;> omega
theorem tot_shr (h1 : 1 ≤ n) (h4 : n ≤ 4) : tot (shr m n) n = (m : Int) := by
  have : n = 1 ∨ n = 2 ∨ n = 3 ∨ n = 4 := by omega
  rcases this with rfl | rfl | rfl | rfl
  · show 0 + shr m 1 0 = _
    unfold shr; split <;> omega
  · show 0 + shr m 2 0 + shr m 2 1 = _
    unfold shr; split <;> split <;> omega
  · show 0 + shr m 3 0 + shr m 3 1 + shr m 3 2 = _
    unfold shr; split <;> split <;> split <;> omega
  · show 0 + shr m 4 0 + shr m 4 1 + shr m 4 2 + shr m 4 3 = _
    unfold shr; split <;> split <;> split <;> split <;> omega
/-- How many each is to have more. -/
def stp (m n : Nat) (H : Nat → Int) (j : Nat) : Int := shr m n j - H j
theorem tot_stp (h1 : 1 ≤ n) (h4 : n ≤ 4) : tot (stp m n H) n = (m : Int) - tot H n := by
  show tot (fun j => shr m n j - H j) n = _
  rw [tot_sub, tot_shr h1 h4]
/-- Counts of 33 at most tell as much of no more than 32. -/
theorem tot_cap (hm : m ≤ 32) : ∀ {n : Nat}, (∀ j, j < n → 0 ≤ H j) → (tot (fun j => if H j < 33 then H j else 33) n = tot H n ∨ (33 ≤ tot (fun j => if H j < 33 then H j else 33) n ∧ 33 ≤ tot H n))
  | 0, _ => .inl rfl
  | n + 1, h => by
    have ih := tot_cap (n := n) hm fun j hj => h j (by omega)
    have h0 := h n (by omega)
    have t0 : 0 ≤ tot H n := tot_mono (n := n) (i := 0) (fun j hj => h j (by omega)) (Nat.zero_le _) (Nat.le_refl _)
    have t1 : 0 ≤ tot (fun j => if H j < 33 then H j else 33) n := tot_mono (n := n) (i := 0) (fun j hj => by have := h j (by omega); split <;> omega) (Nat.zero_le _) (Nat.le_refl _)
    rw [tot_succ, tot_succ]
    split <;> omega
theorem sgn_cap (hm : m ≤ 32) (h : ∀ j, j < n → 0 ≤ H j) : sgn ((m : Int) - tot (fun j => if H j < 33 then H j else 33) n) = sgn ((m : Int) - tot H n) := by
  rcases tot_cap hm h with e | ⟨h1, h2⟩
  · rw [e]
  · rw [sgn_neg (by omega), sgn_neg (by omega)]
end
end Go.Proofs.Ytomnkdfolonicaa.SzM
