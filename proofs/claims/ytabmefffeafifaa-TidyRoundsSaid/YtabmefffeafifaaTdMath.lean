/-
  Chapter 21 as mathematics: the places that are picked, going round from a place on ('pk'), and how many are so ('cnt'). No program is named here.
-/
import Derived.Handy
namespace Go.Proofs.Ytabmefffeafifaa.TdM

/-- The places picked of j steps round n from a on, at most k, of those that are so. -/
def pk (g : Nat → Bool) (n a k : Nat) : Nat → List Nat
  | 0 => []
  | j + 1 => if (pk g n a k j).length < k ∧ g ((a + j) % n) = true then pk g n a k j ++ [(a + j) % n] else pk g n a k j
/-- How many of the first j are so. -/
def cnt (g : Nat → Bool) : Nat → Nat
  | 0 => 0
  | j + 1 => cnt g j + if g j = true then 1 else 0
section
variable {g g' : Nat → Bool} {n a k j q x : Nat}
theorem pk_in (h : (pk g n a k j).length < k) (hg : g ((a + j) % n) = true) : pk g n a k (j + 1) = pk g n a k j ++ [(a + j) % n] := if_pos ⟨h, hg⟩
theorem pk_out (hg : g ((a + j) % n) = false) : pk g n a k (j + 1) = pk g n a k j := if_neg fun h => by rw [hg] at h; cases h.2
theorem pk_full (h : k ≤ (pk g n a k j).length) : ∀ i, j ≤ i → pk g n a k i = pk g n a k j
  | 0, hi => by obtain rfl : j = 0 := by omega
                rfl
  | i + 1, hi => by
    rcases Nat.lt_or_ge i j with e | e
    · obtain rfl : j = i + 1 := by omega
      rfl
    · have ih := pk_full h i e
      show (if _ then _ else _) = _
      rw [ih, if_neg (by omega)]
theorem pk_len : ∀ {j : Nat}, (pk g n a k j).length ≤ k ∧ (pk g n a k j).length ≤ j
  | 0 => ⟨Nat.zero_le _, Nat.le_refl _⟩
  | j + 1 => by
    have ih := pk_len (j := j)
    unfold pk
    split
    · rename_i h
      simp only [List.length_append, List.length_cons, List.length_nil]
      omega
    · omega
theorem pk_mem : ∀ {j : Nat}, x ∈ pk g n a k j → g x = true ∧ ∃ i, i < j ∧ x = (a + i) % n
  | 0, h => by cases h
  | j + 1, h => by
    unfold pk at h
    split at h
    · rename_i hh
      rcases List.mem_append.1 h with h | h
      · obtain ⟨h1, i, h2, h3⟩ := pk_mem h
        exact ⟨h1, i, by omega, h3⟩
      · have : x = (a + j) % n := by simpa using h
        subst this
        exact ⟨hh.2, j, by omega, rfl⟩
    · obtain ⟨h1, i, h2, h3⟩ := pk_mem h
      exact ⟨h1, i, by omega, h3⟩
theorem round_ne {i : Nat} (hij : i < j) (hj : j < n) : (a + i) % n ≠ (a + j) % n := by
  intro e
  have h0 : 0 < n := by omega
  have h1 := Nat.div_add_mod (a + i) n
  have h2 := Nat.div_add_mod (a + j) n
  rw [e] at h1
  generalize (a + j) % n = r at *
  generalize (a + i) / n = p at *
  generalize (a + j) / n = s at *
  rcases Nat.lt_or_ge p s with hp | hp
  · have : n * (p + 1) ≤ n * s := Nat.mul_le_mul_left n hp
    rw [Nat.mul_add, Nat.mul_one] at this
    omega
  · have : n * s ≤ n * p := Nat.mul_le_mul_left n hp
    omega
theorem pk_nodup : ∀ {j : Nat}, j ≤ n → (pk g n a k j).Nodup
  | 0, _ => List.nodup_nil
  | j + 1, hj => by
    have ih := pk_nodup (j := j) (by omega)
    unfold pk
    split
    · refine List.nodup_append.2 ⟨ih, by simp, fun x hx y hy e => ?_⟩
      obtain ⟨_, i, hi, hxe⟩ := pk_mem hx
      have : y = (a + j) % n := by simpa using hy
      rw [hxe, this] at e
      exact round_ne hi (by omega) e
    · exact ih
theorem pk_none (hk : 0 < k) : ∀ {j : Nat}, pk g n a k j = [] → ∀ i, i < j → g ((a + i) % n) = false
  | 0, _, i, hi => absurd hi (Nat.not_lt_zero i)
  | j + 1, h, i, hi => by
    by_cases e : (pk g n a k j).length < k ∧ g ((a + j) % n) = true
    · rw [pk_in e.1 e.2] at h
      simp at h
    · have h2 : pk g n a k j = [] := by
        have h3 : pk g n a k (j + 1) = pk g n a k j := if_neg e
        rw [← h3]; exact h
      rcases Nat.lt_or_ge i j with hi2 | hi2
      · exact pk_none hk h2 i hi2
      · obtain rfl : i = j := by omega
        rw [h2] at e
        cases hv : g ((a + i) % n) with
        | false => rfl
        | true => exact absurd ⟨hk, hv⟩ e
/-- Nothing is picked only if there is nothing. -/
theorem pk_nil (hk : 0 < k) (h : pk g n a k n = []) (hq : q < n) : g q = false := by
  have h0 : 0 < n := by omega
  have hr := Nat.mod_lt a h0
  have h1 := Nat.div_add_mod a n
  have := pk_none hk h ((q + n - a % n) % n) (Nat.mod_lt _ h0)
  have e : (a + (q + n - a % n) % n) % n = q := by
    rw [Nat.add_mod_mod]
    have h2 : a + (q + n - a % n) = q + n * (a / n + 1) := by rw [Nat.mul_add, Nat.mul_one]; omega
    rw [h2, Nat.add_mul_mod_self_left, Nat.mod_eq_of_lt hq]
  rw [e] at this
  exact this
theorem pk_same (h : ∀ q, q < n → g' q = g q) (h0 : 0 < n) : ∀ j, pk g' n a k j = pk g n a k j
  | 0 => rfl
  | j + 1 => by
    unfold pk
    rw [pk_same h h0 j, h _ (Nat.mod_lt _ h0)]
theorem cnt_le : ∀ {j : Nat}, cnt g j ≤ j
  | 0 => Nat.le_refl _
  | j + 1 => by
    have := cnt_le (j := j)
    unfold cnt
    split <;> omega
theorem cnt_same : ∀ {j : Nat}, (∀ q, q < j → g' q = g q) → cnt g' j = cnt g j
  | 0, _ => rfl
  | j + 1, h => by
    unfold cnt
    rw [cnt_same (j := j) fun q hq => h q (by omega), h j (by omega)]
theorem cnt_in (h : g j = true) : cnt g (j + 1) = cnt g j + 1 := by
  show cnt g j + _ = _
  rw [if_pos h]
theorem cnt_out (h : g j = false) : cnt g (j + 1) = cnt g j := by
  show cnt g j + _ = _
  rw [h]; rfl
theorem cnt_zero : ∀ {j : Nat}, cnt g j = 0 → ∀ q, q < j → g q = false
  | 0, _, q, hq => absurd hq (Nat.not_lt_zero q)
  | j + 1, h, q, hq => by
    unfold cnt at h
    rcases Nat.lt_or_ge q j with e | e
    · exact cnt_zero (j := j) (by omega) q e
    · obtain rfl : q = j := by omega
      cases hv : g q with
      | false => rfl
      | true => rw [hv] at h; simp at h
theorem cnt_none : ∀ {j : Nat}, (∀ q, q < j → g q = false) → cnt g j = 0
  | 0, _ => rfl
  | j + 1, h => by rw [cnt_out (h j (by omega)), cnt_none fun q hq => h q (by omega)]
/-- One that is so is not any more. -/
def off (g : Nat → Bool) (q x : Nat) : Bool := if x = q then false else g x
theorem off_same : off g q q = false := if_pos rfl
theorem off_other (h : x ≠ q) : off g q x = g x := if_neg h
theorem cnt_off (hg : g q = true) : ∀ {j : Nat}, q < j → cnt (off g q) j + 1 = cnt g j
  | 0, h => absurd h (Nat.not_lt_zero q)
  | j + 1, h => by
    rcases Nat.lt_or_ge q j with e | e
    · have ih := cnt_off hg (j := j) e
      unfold cnt
      rw [off_other (q := q) (x := j) (by omega)]
      omega
    · obtain rfl : q = j := by omega
      rw [cnt_in hg, cnt_out off_same, cnt_same fun x hx => off_other (by omega)]
end
end Go.Proofs.Ytabmefffeafifaa.TdM
