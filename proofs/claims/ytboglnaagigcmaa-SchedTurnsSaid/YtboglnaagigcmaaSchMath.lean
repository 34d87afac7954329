/-
  A schedule of tasks as mathematics (chapter 7); no program is named here.
-/
import Derived.Test.YtboglnaagigcmaaCells
namespace Go.Proofs.Ytboglnaagigcmaa.SchM

/-- A function turned at one place. -/
def upd (f : Nat → Int) (p : Nat) (v : Int) : Nat → Int := fun j => if j = p then v else f j
theorem upd_same (f : Nat → Int) (p : Nat) (v : Int) : upd f p v p = v := if_pos rfl
theorem upd_other (f : Nat → Int) {p j : Nat} (v : Int) (h : j ≠ p) : upd f p v j = f j := if_neg h

/-- Tasks: how many, the state of each, where it stands, what it waits for. -/
structure Sc where
  n : Nat
  S : Nat → Int
  P : Nat → Int
  O : Nat → Int
def Sc.set (T : Sc) (p : Nat) (s pc o : Int) : Sc := ⟨T.n, upd T.S p s, upd T.P p pc, upd T.O p o⟩
def fresh (n : Nat) : Sc := ⟨n, fun _ => 0, fun _ => 0, fun _ => -1⟩

/-- Who is blocked waits for a number, nobody else does. -/
structure Sane (T : Sc) : Prop where
  w : ∀ j, j < T.n → T.S j = 2 → 0 ≤ T.O j
  f : ∀ j, j < T.n → T.S j ≠ 2 → T.O j = -1
theorem sane_fresh (n : Nat) : Sane (fresh n) := ⟨fun _ _ h => absurd h (by show (0 : Int) ≠ 2; omega), fun _ _ _ => rfl⟩
theorem sane_set {T : Sc} (h : Sane T) (p : Nat) {s pc o : Int} (h2 : s = 2 → 0 ≤ o) (hn : s ≠ 2 → o = -1) : Sane (T.set p s pc o) := by
  refine ⟨fun j hj e => ?_, fun j hj e => ?_⟩
  · by_cases hp : j = p
    · subst hp
      have e : upd T.S j s j = 2 := e
      rw [upd_same] at e
      show 0 ≤ upd T.O j o j
      rw [upd_same]
      exact h2 e
    · have e : upd T.S p s j = 2 := e
      rw [upd_other _ _ hp] at e
      show 0 ≤ upd T.O p o j
      rw [upd_other _ _ hp]
      exact h.w j hj e
  · by_cases hp : j = p
    · subst hp
      have e : upd T.S j s j ≠ 2 := e
      rw [upd_same] at e
      show upd T.O j o j = -1
      rw [upd_same]
      exact hn e
    · have e : upd T.S p s j ≠ 2 := e
      rw [upd_other _ _ hp] at e
      show upd T.O p o j = -1
      rw [upd_other _ _ hp]
      exact h.f j hj e

/-- Is there such a task? -/
def Sc.has (T : Sc) (t : Int) : Bool := decide (0 ≤ t ∧ t < (T.n : Int))
theorem has_nat (T : Sc) {k : Nat} (h : k < T.n) : T.has (k : Int) = true := by unfold Sc.has; rw [decide_eq_true_eq]; omega

/-! ### The steps: may it be, and what it makes -/
def Sc.wakeB (T : Sc) (t pc : Int) : Bool := T.has t && decide (0 ≤ pc) && (decide (T.S t.toNat = 0) || decide (T.S t.toNat = 3))
def Sc.wake (T : Sc) (t pc : Int) : Sc := if T.wakeB t pc then T.set t.toNat 1 pc (-1) else T
def Sc.goB (T : Sc) (t pc : Int) : Bool := T.has t && decide (0 ≤ pc) && decide (T.S t.toNat = 1)
def Sc.go (T : Sc) (t pc : Int) : Sc := if T.goB t pc then T.set t.toNat 1 pc (-1) else T
def Sc.block (T : Sc) (t on : Int) : Sc := if T.goB t on then T.set t.toNat 2 (T.P t.toNat) on else T
def Sc.doneB (T : Sc) (t : Int) : Bool := T.has t && decide (T.S t.toNat = 1)
def Sc.done (T : Sc) (t : Int) : Sc := if T.doneB t then T.set t.toNat 3 (T.P t.toNat) (-1) else T

theorem goB_on {T : Sc} {k : Nat} {pc : Int} (hk : k < T.n) (hp : 0 ≤ pc) (hs : T.S k = 1) : T.goB (k : Int) pc = true := by
  unfold Sc.goB; rw [has_nat T hk, Int.toNat_natCast, hs]; simp [hp]
theorem wakeB_on {T : Sc} {k : Nat} {pc : Int} (hk : k < T.n) (hp : 0 ≤ pc) (hs : T.S k = 0 ∨ T.S k = 3) : T.wakeB (k : Int) pc = true := by
  unfold Sc.wakeB; rw [has_nat T hk, Int.toNat_natCast]
  rcases hs with e | e <;> simp [hp, e]
theorem doneB_on {T : Sc} {k : Nat} (hk : k < T.n) (hs : T.S k = 1) : T.doneB (k : Int) = true := by
  unfold Sc.doneB; rw [has_nat T hk, Int.toNat_natCast, hs]; rfl
theorem wakeB_off {T : Sc} {k : Nat} {pc : Int} (h : pc < 0 ∨ (T.S k ≠ 0 ∧ T.S k ≠ 3)) : T.wakeB (k : Int) pc = false := by
  unfold Sc.wakeB; rw [Int.toNat_natCast]
  rcases h with e | ⟨e, e'⟩
  · rw [decide_eq_false (show ¬ 0 ≤ pc by omega)]; simp
  · simp [e, e']
theorem goB_off {T : Sc} {k : Nat} {pc : Int} (h : pc < 0 ∨ T.S k ≠ 1) : T.goB (k : Int) pc = false := by
  unfold Sc.goB; rw [Int.toNat_natCast]
  rcases h with e | e
  · rw [decide_eq_false (show ¬ 0 ≤ pc by omega)]; simp
  · simp [e]
theorem doneB_off {T : Sc} {k : Nat} (h : T.S k ≠ 1) : T.doneB (k : Int) = false := by
  unfold Sc.doneB; rw [Int.toNat_natCast]; simp [h]
theorem wakeB_none {T : Sc} {t pc : Int} (h : T.has t = false) : T.wakeB t pc = false := by unfold Sc.wakeB; rw [h]; rfl
theorem goB_none {T : Sc} {t pc : Int} (h : T.has t = false) : T.goB t pc = false := by unfold Sc.goB; rw [h]; rfl
theorem doneB_none {T : Sc} {t : Int} (h : T.has t = false) : T.doneB t = false := by unfold Sc.doneB; rw [h]; rfl
theorem goB_neg {T : Sc} {t pc : Int} (h : pc < 0) : T.goB t pc = false := by unfold Sc.goB; rw [decide_eq_false (show ¬ 0 ≤ pc by omega)]; simp
theorem wakeB_neg {T : Sc} {t pc : Int} (h : pc < 0) : T.wakeB t pc = false := by unfold Sc.wakeB; rw [decide_eq_false (show ¬ 0 ≤ pc by omega)]; simp
theorem wake_on {T : Sc} {t pc : Int} (h : T.wakeB t pc = true) : T.wake t pc = T.set t.toNat 1 pc (-1) := if_pos h
theorem wake_off {T : Sc} {t pc : Int} (h : T.wakeB t pc = false) : T.wake t pc = T := by unfold Sc.wake; rw [h]; rfl
theorem go_on {T : Sc} {t pc : Int} (h : T.goB t pc = true) : T.go t pc = T.set t.toNat 1 pc (-1) := if_pos h
theorem go_off {T : Sc} {t pc : Int} (h : T.goB t pc = false) : T.go t pc = T := by unfold Sc.go; rw [h]; rfl
theorem block_on {T : Sc} {t pc : Int} (h : T.goB t pc = true) : T.block t pc = T.set t.toNat 2 (T.P t.toNat) pc := if_pos h
theorem block_off {T : Sc} {t pc : Int} (h : T.goB t pc = false) : T.block t pc = T := by unfold Sc.block; rw [h]; rfl
theorem done_on {T : Sc} {t : Int} (h : T.doneB t = true) : T.done t = T.set t.toNat 3 (T.P t.toNat) (-1) := if_pos h
theorem done_off {T : Sc} {t : Int} (h : T.doneB t = false) : T.done t = T := by unfold Sc.done; rw [h]; rfl
theorem wake_n (T : Sc) (t pc : Int) : (T.wake t pc).n = T.n := by unfold Sc.wake; split <;> rfl
theorem go_n (T : Sc) (t pc : Int) : (T.go t pc).n = T.n := by unfold Sc.go; split <;> rfl
theorem block_n (T : Sc) (t pc : Int) : (T.block t pc).n = T.n := by unfold Sc.block; split <;> rfl
theorem done_n (T : Sc) (t : Int) : (T.done t).n = T.n := by unfold Sc.done; split <;> rfl

/-! ### Who stands so -/
def Sc.pred (T : Sc) (s o : Int) (j : Nat) : Bool := decide (T.S j = s ∧ T.O j = o)
def upto (T : Sc) (s o : Int) (k : Nat) : List Nat := (List.range k).filter (T.pred s o)
def which (T : Sc) (s o : Int) : List Nat := upto T s o T.n
theorem upto_zero (T : Sc) (s o : Int) : upto T s o 0 = [] := rfl
theorem upto_in {T : Sc} {s o : Int} {k : Nat} (h : T.S k = s) (h' : T.O k = o) : upto T s o (k + 1) = upto T s o k ++ [k] := by
  have hp : T.pred s o k = true := by unfold Sc.pred; rw [decide_eq_true_eq]; exact ⟨h, h'⟩
  unfold upto
  rw [List.range_succ, List.filter_append, List.filter_cons_of_pos hp, List.filter_nil]
theorem upto_out {T : Sc} {s o : Int} {k : Nat} (h : T.S k ≠ s ∨ T.O k ≠ o) : upto T s o (k + 1) = upto T s o k := by
  have hp : ¬ T.pred s o k = true := by
    unfold Sc.pred; rw [decide_eq_true_eq]
    rintro ⟨e, e'⟩
    rcases h with h | h
    · exact h e
    · exact h e'
  unfold upto
  rw [List.range_succ, List.filter_append, List.filter_cons_of_neg hp, List.filter_nil, List.append_nil]
theorem mem_upto {T : Sc} {s o : Int} {k j : Nat} : j ∈ upto T s o k ↔ j < k ∧ T.S j = s ∧ T.O j = o := by
  unfold upto Sc.pred
  rw [List.mem_filter, List.mem_range, decide_eq_true_eq]
theorem upto_len (T : Sc) (s o : Int) (k : Nat) : (upto T s o k).length ≤ k := by
  have := List.length_filter_le (T.pred s o) (List.range k)
  rwa [List.length_range] at this
theorem mem_which {T : Sc} {s o : Int} {j : Nat} : j ∈ which T s o ↔ j < T.n ∧ T.S j = s ∧ T.O j = o := mem_upto
theorem which_len (T : Sc) (s o : Int) : (which T s o).length ≤ T.n := upto_len T s o T.n
theorem which_nodup (T : Sc) (s o : Int) : (which T s o).Nodup := List.nodup_range.filter _

def Sc.ready (T : Sc) : List Nat := which T 1 (-1)
theorem mem_ready {T : Sc} (h : Sane T) {j : Nat} : j ∈ T.ready ↔ j < T.n ∧ T.S j = 1 := by
  unfold Sc.ready
  rw [mem_which]
  exact ⟨fun ⟨a, b, _⟩ => ⟨a, b⟩, fun ⟨a, b⟩ => ⟨a, b, h.f j a (by omega)⟩⟩

/-- A list of places, as the numbers that a program has. -/
def ints (zs : List Nat) : List Int := zs.map fun z : Nat => (z : Int)
theorem ints_len (zs : List Nat) : (ints zs).length = zs.length := by simp [ints]
theorem ints_get (zs : List Nat) (j : Nat) : (ints zs).getD j 0 = ((zs.getD j 0 : Nat) : Int) := by
  unfold ints
  rw [List.getD_eq_getElem?_getD, List.getD_eq_getElem?_getD, List.getElem?_map]
  cases zs[j]? <;> rfl
theorem ints_snoc (zs : List Nat) (k : Nat) : ints (zs ++ [k]) = ints zs ++ [(k : Int)] := by simp [ints]
theorem getD_mem {zs : List Nat} {j : Nat} (h : j < zs.length) : zs.getD j 0 ∈ zs := by
  rw [List.getD_eq_getElem?_getD, List.getElem?_eq_getElem h]; exact List.getElem_mem _

/-! ### Free -/
def Sc.free1 (T : Sc) (l : List Nat) : Sc := ⟨T.n, fun j => if j ∈ l then 1 else T.S j, T.P, fun j => if j ∈ l then -1 else T.O j⟩
def Sc.free (T : Sc) (on : Int) : Sc := T.free1 (which T 2 on)
theorem free1_nil (T : Sc) : T.free1 [] = T := by unfold Sc.free1; simp
theorem free1_snoc (T : Sc) (l : List Nat) (k : Nat) : (T.free1 l).set k 1 (T.P k) (-1) = T.free1 (l ++ [k]) := by
  unfold Sc.free1 Sc.set
  simp only [List.mem_append, List.mem_singleton]
  congr 1
  · funext j
    unfold upd
    dsimp only
    by_cases e : j = k
    · rw [if_pos e, if_pos (.inr e)]
    · rw [if_neg e]
      by_cases h : j ∈ l
      · rw [if_pos h, if_pos (.inl h)]
      · rw [if_neg h, if_neg (by exact fun x => x.elim h e)]
  · funext j
    unfold upd
    by_cases e : j = k
    · rw [if_pos e, e]
    · rw [if_neg e]
  · funext j
    unfold upd
    dsimp only
    by_cases e : j = k
    · rw [if_pos e, if_pos (.inr e)]
    · rw [if_neg e]
      by_cases h : j ∈ l
      · rw [if_pos h, if_pos (.inl h)]
      · rw [if_neg h, if_neg (by exact fun x => x.elim h e)]
theorem sane_free1 {T : Sc} (h : Sane T) (l : List Nat) : Sane (T.free1 l) := by
  refine ⟨fun j hj e => ?_, fun j hj e => ?_⟩
  · have e : (if j ∈ l then 1 else T.S j) = 2 := e
    show 0 ≤ if j ∈ l then -1 else T.O j
    by_cases hl : j ∈ l
    · rw [if_pos hl] at e; omega
    · rw [if_neg hl] at e ⊢; exact h.w j hj e
  · have e : (if j ∈ l then 1 else T.S j) ≠ 2 := e
    show (if j ∈ l then -1 else T.O j) = -1
    by_cases hl : j ∈ l
    · rw [if_pos hl]
    · rw [if_neg hl] at e ⊢; exact h.f j hj e
theorem which_neg {T : Sc} (h : Sane T) {on : Int} (ho : on < 0) : which T 2 on = [] := by
  refine List.eq_nil_iff_forall_not_mem.2 fun j hj => ?_
  obtain ⟨a, b, c⟩ := mem_which.1 hj
  have := h.w j a b
  omega

/-! ### Pick, Stuck, Task -/
def Sc.pick (T : Sc) (n : Int) : Int := if T.ready = [] then -1 else ((T.ready.getD (n % (T.ready.length : Int)).toNat 0 : Nat) : Int)
/-- A remainder, put right. -/
theorem mod_right (n : Int) {L : Nat} (h : 1 ≤ L) : ∃ (m : Int) (q : Nat), n.tmod (L : Int) = m ∧ -(L : Int) < m ∧ m < (L : Int) ∧ (n % (L : Int)).toNat = q ∧ q < L ∧ (m < 0 → m + (L : Int) = (q : Int)) ∧ (0 ≤ m → m = (q : Int)) ∧ (m + (L : Int)).tmod (L : Int) = (q : Int) := by
  have hL : (0 : Int) < (L : Int) := by omega
  have e0 := Int.emod_nonneg n (show (L : Int) ≠ 0 by omega)
  have e1 := Int.emod_lt_of_pos n hL
  have b1 := Int.lt_tmod_of_pos n hL
  have b2 := Int.tmod_lt_of_pos n hL
  have ht : n.tmod (L : Int) = n % (L : Int) ∨ (n.tmod (L : Int) < 0 ∧ n.tmod (L : Int) + (L : Int) = n % (L : Int)) := by
    by_cases hn : n < 0
    · by_cases hz : n.tmod (L : Int) = 0
      · left
        have hd : (L : Int) ∣ n := Int.dvd_of_tmod_eq_zero hz
        rw [hz, Int.emod_eq_zero_of_dvd hd]
      · right
        have hle : n.tmod (L : Int) ≤ 0 := by
          have := Int.tmod_nonneg (a := -n) (L : Int) (by omega)
          rw [Int.neg_tmod] at this
          omega
        have hmod : (n.tmod (L : Int)) % (L : Int) = n % (L : Int) := by
          have h2 := Int.mul_tdiv_add_tmod n (L : Int)
          have h4 : ((L : Int) * n.tdiv (L : Int) + n.tmod (L : Int)) % (L : Int) = n.tmod (L : Int) % (L : Int) := by rw [Int.add_comm, Int.add_mul_emod_self_left]
          rw [h2] at h4
          exact h4.symm
        have h3 : (n.tmod (L : Int) + (L : Int)) % (L : Int) = n.tmod (L : Int) + (L : Int) := Int.emod_eq_of_lt (by omega) (by omega)
        rw [Int.add_emod_right, hmod] at h3
        exact ⟨by omega, h3.symm⟩
    · left
      exact Int.tmod_eq_emod_of_nonneg (by omega)
  refine ⟨_, (n % (L : Int)).toNat, rfl, by omega, by omega, rfl, by omega, fun hm => ?_, fun hm => ?_, ?_⟩
  · omega
  · omega
  · rcases ht with e | ⟨_, e⟩
    · rw [e, Int.tmod_eq_emod_of_nonneg (by omega), Int.add_emod_right, Int.emod_emod_of_dvd _ (Int.dvd_refl _)]
      omega
    · rw [e, Int.tmod_eq_emod_of_nonneg (by omega), Int.emod_emod_of_dvd _ (Int.dvd_refl _)]
      omega
def some2 (T : Sc) (k : Nat) : Bool := (List.range k).any fun j => decide (T.S j = 2)
theorem some2_zero (T : Sc) : some2 T 0 = false := rfl
theorem some2_succ (T : Sc) (k : Nat) : some2 T (k + 1) = (some2 T k || decide (T.S k = 2)) := by
  unfold some2; rw [List.range_succ, List.any_append]; simp
def Sc.stuck (T : Sc) : Bool := some2 T T.n && decide (T.ready = [])
theorem stuck_ready {T : Sc} (h : Sane T) {k : Nat} (hk : k < T.n) (hs : T.S k = 1) : T.stuck = false := by
  unfold Sc.stuck
  rw [decide_eq_false (fun e => by
    have := (mem_ready h (j := k)).2 ⟨hk, hs⟩
    rw [e] at this
    cases this)]
  simp
theorem stuck_none {T : Sc} (hs : ∀ k, k < T.n → T.S k ≠ 1) : T.stuck = some2 T T.n := by
  unfold Sc.stuck
  rw [decide_eq_true, Bool.and_true]
  refine List.eq_nil_iff_forall_not_mem.2 fun j hj => ?_
  obtain ⟨a, b, _⟩ := mem_which.1 hj
  exact hs j a b
theorem stuck_len (T : Sc) : T.stuck = (some2 T T.n && decide (T.ready.length = 0)) := by
  unfold Sc.stuck
  congr 1
  rw [decide_eq_decide]
  exact List.length_eq_zero_iff.symm
end Go.Proofs.Ytboglnaagigcmaa.SchM
