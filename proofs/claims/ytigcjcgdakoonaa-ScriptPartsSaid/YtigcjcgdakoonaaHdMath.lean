/-
  Handles as mathematics (chapter 12): of each client the page that each of its six handles has; no function is named here.
-/
import Derived.Handy
namespace Go.Proofs.Ytigcjcgdakoonaa.HdM

/-- The least handle below m without a page; m: there is none. -/
def lst (f : Nat → Int) : Nat → Nat
  | 0 => 0
  | m + 1 => if lst f m < m then lst f m else if f m = -1 then m else m + 1
theorem lst_le (f : Nat → Int) : ∀ m, lst f m ≤ m
  | 0 => Nat.le_refl _
  | m + 1 => by
    have := lst_le f m
    unfold lst
    split
    · omega
    · split <;> omega
theorem lst_free (f : Nat → Int) : ∀ m j, j < lst f m → f j ≠ -1
  | 0, j, h => absurd h (Nat.not_lt_zero j)
  | m + 1, j, h => by
    have ih := lst_free f m
    have hl := lst_le f m
    unfold lst at h
    split at h
    · exact ih j h
    · rename_i h1
      have e : lst f m = m := by omega
      split at h
      · exact ih j (by omega)
      · rename_i h2
        by_cases e2 : j = m
        · subst e2; exact h2
        · exact ih j (by omega)
theorem lst_at (f : Nat → Int) : ∀ m, lst f m < m → f (lst f m) = -1
  | 0, h => absurd h (Nat.not_lt_zero _)
  | m + 1, h => by
    have ih := lst_at f m
    unfold lst at h ⊢
    split
    · rename_i h1; exact ih h1
    · rename_i h1
      rw [if_neg h1] at h
      split
      · assumption
      · rename_i h2
        rw [if_neg h2] at h
        omega
theorem lst_eq {f : Nat → Int} {m k : Nat} (h : ∀ j, j < k → f j ≠ -1) (hk : k = m ∨ (k < m ∧ f k = -1)) : lst f m = k := by
  have hl := lst_le f m
  rcases Nat.lt_trichotomy (lst f m) k with h1 | h1 | h1
  · exact absurd (lst_at f m (by omega)) (h _ h1)
  · exact h1
  · rcases hk with hk | ⟨_, hk⟩
    · omega
    · exact absurd hk (lst_free f m k h1)
/-- Which handle: -1, if there is none. -/
def hnd (f : Nat → Int) (m : Nat) : Int := if lst f m < m then (lst f m : Int) else -1
theorem hnd_at {f : Nat → Int} {m k : Nat} (h : ∀ j, j < k → f j ≠ -1) (hk : k < m) (hf : f k = -1) : hnd f m = (k : Int) := by
  unfold hnd
  rw [lst_eq h (.inr ⟨hk, hf⟩), if_pos hk]
theorem hnd_none {f : Nat → Int} {m : Nat} (h : ∀ j, j < m → f j ≠ -1) : hnd f m = -1 := by
  unfold hnd
  rw [lst_eq h (.inl rfl), if_neg (Nat.lt_irrefl _)]
theorem hnd_zero (f : Nat → Int) : hnd f 0 = -1 := hnd_none fun j h => absurd h (Nat.not_lt_zero j)
theorem hnd_cases (f : Nat → Int) (m : Nat) : (hnd f m = -1 ∧ ∀ j, j < m → f j ≠ -1) ∨ ∃ k, k < m ∧ hnd f m = (k : Int) ∧ f k = -1 ∧ ∀ j, j < k → f j ≠ -1 := by
  by_cases h : lst f m < m
  · exact .inr ⟨lst f m, h, by unfold hnd; rw [if_pos h], lst_at f m h, lst_free f m⟩
  · have e : lst f m = m := by have := lst_le f m; omega
    have hf := lst_free f m
    rw [e] at hf
    exact .inl ⟨hnd_none hf, hf⟩

/-- How many of the first m are p. -/
def cnt (f : Nat → Int) (p : Int) : Nat → Nat
  | 0 => 0
  | m + 1 => cnt f p m + if f m = p then 1 else 0
theorem cnt_le (f : Nat → Int) (p : Int) : ∀ m, cnt f p m ≤ m
  | 0 => Nat.le_refl _
  | m + 1 => by
    have := cnt_le f p m
    unfold cnt
    split <;> omega
theorem cnt_yes {f : Nat → Int} {p : Int} {m : Nat} (h : f m = p) : cnt f p (m + 1) = cnt f p m + 1 := by
  show cnt f p m + (if f m = p then 1 else 0) = _
  rw [if_pos h]
theorem cnt_no {f : Nat → Int} {p : Int} {m : Nat} (h : f m ≠ p) : cnt f p (m + 1) = cnt f p m := by
  show cnt f p m + (if f m = p then 1 else 0) = _
  rw [if_neg h]; rfl
def sum (g : Nat → Nat) : Nat → Nat
  | 0 => 0
  | m + 1 => sum g m + g m
theorem sum_le {g : Nat → Nat} {b : Nat} (h : ∀ i, g i ≤ b) : ∀ m, sum g m ≤ m * b
  | 0 => by simp [sum]
  | m + 1 => by
    have h1 := sum_le h m
    have h2 := h m
    have e : (m + 1) * b = m * b + b := Nat.succ_mul m b
    show sum g m + g m ≤ _
    omega

/-- So many clients; the page of each handle of each. -/
structure Hs where
  n : Nat
  H : Nat → Nat → Int
namespace Hs
variable (a : Hs)
def put (c j : Nat) (p : Int) : Hs := ⟨a.n, fun x y => if x = c ∧ y = j then p else a.H x y⟩
def len (c : Int) : Nat := if 0 ≤ c ∧ c < (a.n : Int) then 6 else 0
def page (c h : Int) : Int := if 0 ≤ h ∧ h < (a.len c : Int) then a.H c.toNat h.toNat else -1
def give (c p : Int) : Int := if p < 0 then -1 else hnd (a.H c.toNat) (a.len c)
def gave (c p : Int) : Hs := if a.give c p = -1 then a else a.put c.toNat (a.give c p).toNat p
def back (c h : Int) : Hs := if a.page c h = -1 then a else a.put c.toNat h.toNat (-1)
def room (c : Int) : Bool := !decide (hnd (a.H c.toNat) (a.len c) = -1)
def has (p : Int) (c : Nat) : Nat := cnt (a.H c) p 6
def pins (p : Int) : Nat := if p < 0 then 0 else sum (a.has p) a.n
end Hs
/-- Handles of so many clients, all of them without a page. -/
def fresh (n : Nat) : Hs := ⟨n, fun _ _ => -1⟩
structure Good (a : Hs) : Prop where
  n : a.n ≤ 6
  h : ∀ c j, -1 ≤ a.H c j
section
variable {a : Hs} {c h p : Int}
theorem good_fresh {n : Nat} (h : n ≤ 6) : Good (fresh n) := ⟨h, fun _ _ => Int.le_refl _⟩
theorem Good.put (g : Good a) (c j : Nat) (hp : -1 ≤ p) : Good (a.put c j p) := ⟨g.n, fun x y => by
  show -1 ≤ if x = c ∧ y = j then p else a.H x y
  split
  · exact hp
  · exact g.h x y⟩
theorem put_same (a : Hs) (c j : Nat) (p : Int) : (a.put c j p).H c j = p := if_pos ⟨rfl, rfl⟩
theorem put_other (a : Hs) {c j x y : Nat} (p : Int) (h : ¬ (x = c ∧ y = j)) : (a.put c j p).H x y = a.H x y := if_neg h
theorem len_in {k : Nat} (h : k < a.n) : a.len (k : Int) = 6 := if_pos ⟨by omega, by omega⟩
theorem len_out (h : ¬ (0 ≤ c ∧ c < (a.n : Int))) : a.len c = 0 := if_neg h
theorem page_out (h : ¬ (0 ≤ c ∧ c < (a.n : Int))) (k : Int) : a.page c k = -1 := by
  unfold Hs.page
  rw [len_out h, if_neg (by omega)]
theorem page_off {k : Nat} (hk : k < a.n) (hh : ¬ (0 ≤ h ∧ h < 6)) : a.page (k : Int) h = -1 := by
  unfold Hs.page
  rw [len_in hk, if_neg (by omega)]
theorem page_in {k j : Nat} (hk : k < a.n) (hj : j < 6) : a.page (k : Int) (j : Int) = a.H k j := by
  unfold Hs.page
  rw [len_in hk, if_pos (by omega), Int.toNat_natCast, Int.toNat_natCast]
theorem give_out (h : ¬ (0 ≤ c ∧ c < (a.n : Int))) (p : Int) : a.give c p = -1 := by
  unfold Hs.give
  rw [len_out h, hnd_zero]
  split <;> rfl
theorem give_low (h : p < 0) (c : Int) : a.give c p = -1 := by
  unfold Hs.give
  rw [if_pos h]
theorem give_in {k : Nat} (hk : k < a.n) (hp : ¬ p < 0) : a.give (k : Int) p = hnd (a.H k) 6 := by
  unfold Hs.give
  rw [len_in hk, if_neg hp, Int.toNat_natCast]
theorem gave_not (h : a.give c p = -1) : a.gave c p = a := if_pos h
theorem gave_at {k j : Nat} (h : a.give (k : Int) p = (j : Int)) : a.gave (k : Int) p = a.put k j p := by
  unfold Hs.gave
  rw [h, if_neg (by omega), Int.toNat_natCast, Int.toNat_natCast]
theorem back_not (h' : a.page c h = -1) : a.back c h = a := if_pos h'
theorem back_at {k j : Nat} (h : a.page (k : Int) (j : Int) ≠ -1) : a.back (k : Int) (j : Int) = a.put k j (-1) := by
  unfold Hs.back
  rw [if_neg h, Int.toNat_natCast, Int.toNat_natCast]
theorem room_out (h : ¬ (0 ≤ c ∧ c < (a.n : Int))) : a.room c = false := by
  unfold Hs.room
  rw [len_out h, hnd_zero]; rfl
theorem room_in {k : Nat} (hk : k < a.n) : a.room (k : Int) = !decide (hnd (a.H k) 6 = -1) := by
  unfold Hs.room
  rw [len_in hk, Int.toNat_natCast]
theorem pins_low (h : p < 0) : a.pins p = 0 := if_pos h
theorem pins_up (h : ¬ p < 0) : a.pins p = sum (a.has p) a.n := if_neg h
theorem pins_le (g : Good a) (p : Int) : sum (a.has p) a.n ≤ 36 := by
  have h1 := sum_le (g := a.has p) (b := 6) (fun i => cnt_le _ _ _) a.n
  have := g.n
  omega
theorem Good.gave (g : Good a) (c p : Int) : Good (a.gave c p) := by
  unfold Hs.gave
  split
  · exact g
  · rename_i h
    refine g.put _ _ ?_
    by_cases hp : p < 0
    · exact absurd (give_low hp c) h
    · omega
theorem Good.back (g : Good a) (c h : Int) : Good (a.back c h) := by
  unfold Hs.back
  split
  · exact g
  · exact g.put _ _ (Int.le_refl _)
theorem gave_n (c p : Int) : (a.gave c p).n = a.n := by
  unfold Hs.gave
  split <;> rfl
theorem back_n (c h : Int) : (a.back c h).n = a.n := by
  unfold Hs.back
  split <;> rfl
end
end Go.Proofs.Ytigcjcgdakoonaa.HdM
