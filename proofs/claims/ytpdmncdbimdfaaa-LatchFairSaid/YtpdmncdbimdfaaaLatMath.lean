/-
  A latch as mathematics: who writes, who reads, who waits; who is let in ('goIn'); what keeps ('Pre', 'Good'). No program is named here.
-/
namespace Go.Proofs.Ytpdmncdbimdfaaa.LatM

def task (t : Int) : Bool := decide (0 ≤ t) && decide (t < 64)
def who (q : Int) : Int := if q < -1 then -2 - q else q
def gives (W : Int) (R : List Int) (q : Int) : Bool := (W == -1) && !((q == who q) && decide (0 < R.length))

/-- A latch: who writes (-1: nobody), who reads, who waits (as they stand). -/
structure La where
  W : Int
  R : List Int
  Q : List Int
def La.has (L : La) (t : Int) : Bool := (task t && (L.W == t)) || L.R.contains t
def La.waits (L : La) (t : Int) : Bool := L.Q.contains t || L.Q.contains (-2 - t)

theorem task_iff {t : Int} : task t = true ↔ 0 ≤ t ∧ t < 64 := by simp [task]
theorem who_task {t : Int} (h : task t = true) : who t = t := by
  have := task_iff.1 h
  unfold who
  rw [if_neg (by omega)]
theorem who_read {t : Int} (h : task t = true) : who (-2 - t) = t := by
  have := task_iff.1 h
  unfold who
  rw [if_pos (by omega)]
  omega
theorem who_inv {q : Int} (h : task (who q) = true) : (q = who q ∧ 0 ≤ q) ∨ (q = -2 - who q ∧ q < -1) := by
  have := task_iff.1 h
  by_cases e : q < -1
  · have e2 : who q = -2 - q := if_pos e
    omega
  · have e2 : who q = q := if_neg e
    omega

/-! ### A rising list -/
def place (R : List Int) (t : Int) : Nat := R.countP (· < t)
def ins (R : List Int) (t : Int) : List Int := R.take (place R t) ++ t :: R.drop (place R t)
abbrev Up (R : List Int) : Prop := R.Pairwise (· < ·)
section
variable {R : List Int} {t x : Int}
theorem place_le : place R t ≤ R.length := List.countP_le_length
theorem ins_len : (ins R t).length = R.length + 1 := by
  have := place_le (R := R) (t := t)
  unfold ins
  simp
  omega
theorem mem_ins : x ∈ ins R t ↔ x = t ∨ x ∈ R := by
  have h : x ∈ R ↔ x ∈ R.take (place R t) ∨ x ∈ R.drop (place R t) := by
    rw [← List.mem_append, List.take_append_drop]
  unfold ins
  rw [List.mem_append, List.mem_cons, h]
  constructor
  · rintro (h | h | h)
    · exact .inr (.inl h)
    · exact .inl h
    · exact .inr (.inr h)
  · rintro (h | h | h)
    · exact .inr (.inl h)
    · exact .inl h
    · exact .inr (.inr h)
theorem split_at : ∀ {R : List Int}, Up R → R.take (place R t) = R.filter (fun x => decide (x < t)) ∧ R.drop (place R t) = R.filter (fun x => !decide (x < t))
  | [], _ => ⟨by simp, by simp⟩
  | a :: R, h => by
    obtain ⟨h1, h2⟩ := List.pairwise_cons.1 h
    obtain ⟨i1, i2⟩ := split_at h2
    by_cases e : a < t
    · have hp : place (a :: R) t = place R t + 1 := by unfold place; rw [List.countP_cons_of_pos (by simpa using e)]
      rw [hp, List.take_succ_cons, List.drop_succ_cons, List.filter_cons_of_pos (by simpa using e), List.filter_cons_of_neg (by simpa using e), i1, i2]
      exact ⟨rfl, rfl⟩
    · have hz : ∀ x ∈ a :: R, ¬ x < t := fun x hx => by
        rcases List.mem_cons.1 hx with rfl | hx
        · exact e
        · have := h1 x hx
          omega
      have hp : place (a :: R) t = 0 := by
        unfold place
        rw [List.countP_eq_zero]
        intro x hx
        simpa using hz x hx
      rw [hp, List.take_zero, List.drop_zero]
      refine ⟨?_, ?_⟩
      · symm
        rw [List.filter_eq_nil_iff]
        intro x hx
        simpa using hz x hx
      · symm
        rw [List.filter_eq_self]
        intro x hx
        simpa using hz x hx
theorem ins_up (h : Up R) (ht : t ∉ R) : Up (ins R t) := by
  obtain ⟨e1, e2⟩ := split_at (t := t) h
  unfold ins
  rw [e1, e2]
  refine List.pairwise_append.2 ⟨h.filter _, List.pairwise_cons.2 ⟨fun x hx => ?_, h.filter _⟩, fun x hx y hy => ?_⟩
  · obtain ⟨hm, hx⟩ := List.mem_filter.1 hx
    have hne : x ≠ t := fun e => ht (e ▸ hm)
    have : ¬ x < t := by simpa using hx
    omega
  · have hx' : x < t := by simpa using (List.mem_filter.1 hx).2
    rcases List.mem_cons.1 hy with rfl | hy
    · exact hx'
    · have : ¬ y < t := by simpa using (List.mem_filter.1 hy).2
      omega
theorem up_nodup (h : Up R) : R.Nodup := h.imp fun h e => by omega
theorem ins_end (h : ∀ x ∈ R, x < t) : ins R t = R ++ [t] := by
  have hp : place R t = R.length := by
    unfold place
    rw [List.countP_eq_length]
    intro x hx
    simpa using h x hx
  unfold ins
  rw [hp, List.take_length, List.drop_length]
end
/-- As many numbers as there are tasks. -/
theorem nodup_le : ∀ (N : Nat) {l : List Int}, l.Nodup → (∀ x ∈ l, 0 ≤ x ∧ x < (N : Int)) → l.length ≤ N
  | 0, l, _, h => by
    cases l with
    | nil => exact Nat.le_refl _
    | cons a l => have := h a (by simp); omega
  | N + 1, l, hn, h => by
    by_cases hm : (N : Int) ∈ l
    · have h1 := nodup_le N (hn.erase (N : Int)) fun x hx => by
        have h2 := h x (List.mem_of_mem_erase hx)
        have h3 : x ≠ (N : Int) := fun e => by
          subst e
          exact (List.Nodup.mem_erase_iff hn).1 hx |>.1 rfl
        omega
      rw [List.length_erase_of_mem hm] at h1
      omega
    · have := nodup_le N hn fun x hx => by
        have h2 := h x hx
        have h3 : x ≠ (N : Int) := fun e => hm (e ▸ hx)
        omega
      omega

/-! ### Who is let in -/
def goIn : Int → List Int → List Int → La × List Int
  | W, R, [] => (⟨W, R, []⟩, [])
  | W, R, q :: Q =>
    if gives W R q = true then
      if q = who q then ((goIn (who q) R Q).1, who q :: (goIn (who q) R Q).2)
      else ((goIn W (ins R (who q)) Q).1, who q :: (goIn W (ins R (who q)) Q).2)
    else (⟨W, R, q :: Q⟩, [])
theorem goIn_nil {W : Int} {R : List Int} : goIn W R [] = (⟨W, R, []⟩, []) := rfl
theorem goIn_not {W q : Int} {R Q : List Int} (h : gives W R q = false) : goIn W R (q :: Q) = (⟨W, R, q :: Q⟩, []) := by
  rw [goIn, if_neg (by rw [h]; decide)]
theorem goIn_write {W q : Int} {R Q : List Int} (h : gives W R q = true) (e : q = who q) : goIn W R (q :: Q) = ((goIn (who q) R Q).1, who q :: (goIn (who q) R Q).2) := by
  rw [goIn, if_pos h, if_pos e]
theorem goIn_read {W q : Int} {R Q : List Int} (h : gives W R q = true) (e : q ≠ who q) : goIn W R (q :: Q) = ((goIn W (ins R (who q)) Q).1, who q :: (goIn W (ins R (who q)) Q).2) := by
  rw [goIn, if_pos h, if_neg e]
theorem gives_iff {W q : Int} {R : List Int} : gives W R q = true ↔ W = -1 ∧ (q = who q → R = []) := by
  unfold gives
  cases R <;> simp

/-- What may hold a latch, and wait for it; the first may be one that need not wait. -/
structure Pre (W : Int) (R Q : List Int) : Prop where
  w : W = -1 ∨ (task W = true ∧ R = [])
  up : Up R
  r : ∀ t ∈ R, task t = true
  q : ∀ x ∈ Q, task (who x) = true
  nd : (Q.map who).Nodup
  no : ∀ x ∈ Q, who x ≠ W ∧ who x ∉ R
structure Good (L : La) : Prop where
  pre : Pre L.W L.R L.Q
  first : ∀ x Q, L.Q = x :: Q → gives L.W L.R x = false
section
variable {W : Int} {R Q : List Int} {L : La} {t : Int}
theorem Pre.lenR (h : Pre W R Q) : R.length ≤ 64 := nodup_le 64 (up_nodup h.up) fun x hx => task_iff.1 (h.r x hx)
theorem Pre.lenQ (h : Pre W R Q) : Q.length ≤ 64 := by
  have := nodup_le 64 h.nd fun x hx => by
    obtain ⟨y, hy, rfl⟩ := List.mem_map.1 hx
    exact task_iff.1 (h.q y hy)
  simpa using this
theorem Pre.qB (h : Pre W R Q) : ∀ x ∈ Q, -65 ≤ x ∧ x < 64 := fun x hx => by
  have h1 := task_iff.1 (h.q x hx)
  rcases who_inv (h.q x hx) with ⟨e, _⟩ | ⟨e, _⟩ <;> omega
theorem Pre.wB (h : Pre W R Q) : -1 ≤ W ∧ W < 64 := by
  rcases h.w with e | ⟨e, _⟩
  · omega
  · have := task_iff.1 e
    omega
theorem has_iff (h : Pre L.W L.R L.Q) : L.has t = true ↔ 0 ≤ t ∧ (L.W = t ∨ t ∈ L.R) := by
  unfold La.has
  simp only [Bool.or_eq_true, Bool.and_eq_true, beq_iff_eq, List.contains_iff_mem]
  constructor
  · rintro (⟨h1, h2⟩ | h1)
    · exact ⟨(task_iff.1 h1).1, .inl h2⟩
    · exact ⟨(task_iff.1 (h.r t h1)).1, .inr h1⟩
  · rintro ⟨h0, h1 | h1⟩
    · refine .inl ⟨?_, h1⟩
      have := h.wB
      exact task_iff.2 (by omega)
    · exact .inr h1
theorem waits_iff (h : task t = true) : L.waits t = true ↔ t ∈ L.Q.map who ∧ (∃ x ∈ L.Q, who x = t ∧ (x = t ∨ x = -2 - t)) := by
  unfold La.waits
  simp only [Bool.or_eq_true, List.contains_iff_mem, List.mem_map]
  constructor
  · rintro (h1 | h1)
    · exact ⟨⟨t, h1, who_task h⟩, t, h1, who_task h, .inl rfl⟩
    · exact ⟨⟨-2 - t, h1, who_read h⟩, -2 - t, h1, who_read h, .inr rfl⟩
  · rintro ⟨_, x, hx, _, rfl | rfl⟩
    · exact .inl hx
    · exact .inr hx
theorem waits_mem (h : task t = true) : L.waits t = true ↔ t ∈ L.Q.map who := by
  rw [waits_iff h]
  refine ⟨fun h => h.1, fun hm => ⟨hm, ?_⟩⟩
  obtain ⟨x, hx, e⟩ := List.mem_map.1 hm
  refine ⟨x, hx, e, ?_⟩
  subst e
  rcases who_inv h with ⟨e, _⟩ | ⟨e, _⟩
  · exact .inl e
  · exact .inr e

/-- What letting in makes. -/
theorem goIn_spec : ∀ {Q : List Int} {W : Int} {R : List Int}, Pre W R Q → Good (goIn W R Q).1 ∧ (∃ k, k ≤ Q.length ∧ (goIn W R Q).2 = (Q.take k).map who ∧ (goIn W R Q).1.Q = Q.drop k) ∧
    (∀ t, 0 ≤ t → (((goIn W R Q).1.W = t ∨ t ∈ (goIn W R Q).1.R) ↔ ((W = t ∨ t ∈ R) ∨ t ∈ (goIn W R Q).2)))
  | [], W, R, h => ⟨⟨h, fun x Q e => by cases e⟩, ⟨0, Nat.le_refl _, rfl, rfl⟩, fun t _ => by rw [goIn_nil]; simp⟩
  | q :: Q, W, R, h => by
    have hq := h.q q (by simp)
    obtain ⟨n1, n2⟩ := List.nodup_cons.1 (show (who q :: Q.map who).Nodup from h.nd)
    have hno := h.no q (by simp)
    by_cases g : gives W R q = true
    · obtain ⟨rfl, hR⟩ := gives_iff.1 g
      by_cases e : q = who q
      · have hR0 := hR e
        subst hR0
        rw [goIn_write g e]
        have hp : Pre (who q) [] Q := ⟨.inr ⟨hq, rfl⟩, h.up, h.r, fun x hx => h.q x (by simp [hx]), n2, fun x hx => ⟨fun e => n1 (e ▸ List.mem_map_of_mem hx), by simp⟩⟩
        obtain ⟨g1, ⟨k, hk, e1, e2⟩, h3⟩ := goIn_spec hp
        refine ⟨g1, ⟨k + 1, by simp only [List.length_cons]; omega, by rw [e1]; rfl, e2⟩, fun t h0 => ?_⟩
        rw [h3 t h0]
        simp only [List.mem_cons, List.not_mem_nil, or_false]
        constructor
        · rintro (h | h)
          · exact .inr (.inl h.symm)
          · exact .inr (.inr h)
        · rintro (h | h | h)
          · omega
          · exact .inl h.symm
          · exact .inr h
      · rw [goIn_read g e]
        have hp : Pre (-1) (ins R (who q)) Q := ⟨.inl rfl, ins_up h.up hno.2, fun t ht => by
            rcases mem_ins.1 ht with rfl | ht
            · exact hq
            · exact h.r t ht, fun x hx => h.q x (by simp [hx]), n2, fun x hx => ⟨(h.no x (by simp [hx])).1, fun hm => by
            rcases mem_ins.1 hm with e | hm
            · exact n1 (e ▸ List.mem_map_of_mem hx)
            · exact (h.no x (by simp [hx])).2 hm⟩⟩
        obtain ⟨g1, ⟨k, hk, e1, e2⟩, h3⟩ := goIn_spec hp
        refine ⟨g1, ⟨k + 1, by simp only [List.length_cons]; omega, by rw [e1]; rfl, e2⟩, fun t h0 => ?_⟩
        rw [h3 t h0, mem_ins]
        simp only [List.mem_cons]
        constructor
        · rintro ((h | h | h) | h)
          · exact .inl (.inl h)
          · exact .inr (.inl h)
          · exact .inl (.inr h)
          · exact .inr (.inr h)
        · rintro ((h | h) | h | h)
          · exact .inl (.inl h)
          · exact .inl (.inr (.inr h))
          · exact .inl (.inr (.inl h))
          · exact .inr h
    · have g' : gives W R q = false := by simpa using g
      rw [goIn_not g']
      exact ⟨⟨h, fun x Q' e => by injection e with e1 e2; subst e1; exact g'⟩, ⟨0, Nat.zero_le _, rfl, rfl⟩, fun t _ => by simp⟩

/-! ### Asking, and letting go -/
/-- t asks, and stands as x. -/
theorem ask_pre {x : Int} (h : Good L) (ht : task t = true) (h1 : L.has t = false) (h2 : L.waits t = false) (hx : x = t ∨ x = -2 - t) : Pre L.W L.R (L.Q ++ [x]) := by
  have hw : who x = t := by
    rcases hx with rfl | rfl
    · exact who_task ht
    · exact who_read ht
  have hn : t ∉ L.Q.map who := fun hm => by
    rw [← waits_mem ht] at hm
    rw [hm] at h2
    cases h2
  have hh : ¬ (L.W = t ∨ t ∈ L.R) := fun hm => by
    have := (has_iff h.pre).2 ⟨(task_iff.1 ht).1, hm⟩
    rw [this] at h1
    cases h1
  refine ⟨h.pre.w, h.pre.up, h.pre.r, fun y hy => ?_, ?_, fun y hy => ?_⟩
  · rcases List.mem_append.1 hy with hy | hy
    · exact h.pre.q y hy
    · have : y = x := by simpa using hy
      subst this
      rw [hw]; exact ht
  · rw [List.map_append, List.nodup_append]
    refine ⟨h.pre.nd, by simp, fun a ha b hb => ?_⟩
    have : b = t := by simpa [hw] using hb
    subst this
    exact fun e => hn (e ▸ ha)
  · rcases List.mem_append.1 hy with hy | hy
    · exact h.pre.no y hy
    · have : y = x := by simpa using hy
      subst this
      rw [hw]
      exact ⟨fun e => hh (.inl e.symm), fun hm => hh (.inr hm)⟩
/-- Behind others nobody is let in. -/
theorem ask_behind {x : Int} (h : Good L) (hQ : L.Q ≠ []) : goIn L.W L.R (L.Q ++ [x]) = (⟨L.W, L.R, L.Q ++ [x]⟩, []) := by
  cases e : L.Q with
  | nil => exact absurd e hQ
  | cons q Q => exact goIn_not (h.first q Q e)
theorem free_pre (h : Good L) (ht : L.has t = true) : Pre (if L.W = t then -1 else L.W) (if L.W = t then L.R else L.R.filter (fun x => !decide (x = t))) L.Q := by
  by_cases e : L.W = t
  · rw [if_pos e, if_pos e]
    refine ⟨.inl rfl, h.pre.up, h.pre.r, h.pre.q, h.pre.nd, fun x hx => ⟨fun e => ?_, (h.pre.no x hx).2⟩⟩
    have := task_iff.1 (h.pre.q x hx)
    omega
  · rw [if_neg e, if_neg e]
    refine ⟨?_, h.pre.up.filter _, fun x hx => h.pre.r x (List.mem_filter.1 hx).1, h.pre.q, h.pre.nd, fun x hx => ⟨(h.pre.no x hx).1, fun hm => (h.pre.no x hx).2 (List.mem_filter.1 hm).1⟩⟩
    rcases h.pre.w with h1 | ⟨h1, h2⟩
    · exact .inl h1
    · exact .inr ⟨h1, by rw [h2]; rfl⟩
end
#print axioms goIn_spec
end Go.Proofs.Ytpdmncdbimdfaaa.LatM
