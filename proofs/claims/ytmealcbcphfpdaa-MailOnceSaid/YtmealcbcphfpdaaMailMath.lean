/-
  Slots as mathematics (chapter 9): words that wait (W), who is open (O), answers that wait (A). No program is named here.
-/
import Derived.Test.YtmealcbcphfpdaaPrs
namespace Go.Proofs.Ytmealcbcphfpdaa.MailM
open Go.Proofs.Ytmealcbcphfpdaa.Prs

def fsts (l : List P2) : List Int := l.map (·.1)
structure Bx where
  W : List P2
  O : List Int
  A : List P2
  deriving DecidableEq
/-- Who has a word, open or not, or an answer. -/
def Bx.who (b : Bx) : List Int := fsts b.W ++ (b.O ++ fsts b.A)
/-- How the word of k stands. -/
def Bx.st (b : Bx) (k : Int) : Int := if k ∈ fsts b.W then 1 else if k ∈ b.O then 2 else if k ∈ fsts b.A then 3 else 0
structure Fit (b : Bx) : Prop where
  nd : b.who.Nodup
  rng : ∀ k ∈ b.who, 0 ≤ k ∧ k < 64
  len : b.W.length ≤ 8
/-- A place; -1. -/
def idxI (l : List Int) (k : Int) : Int := if k ∈ l then (l.idxOf k : Int) else -1
def isT (k : Int) : Bool := decide (0 ≤ k) && decide (k < 64)
/-- What is answered, and what a call makes of a box. -/
def Bx.postE (b : Bx) (f : Int) : Int := if isT f then (if b.st f = 0 then (if b.W.length < 8 then 0 else 8) else 13) else 1
def Bx.postB (b : Bx) (f x : Int) : Bx := if b.postE f = 0 then ⟨b.W ++ [(f, x)], b.O, b.A⟩ else b
def Bx.tk (b : Bx) (n : Int) : Nat := min n.toNat b.W.length
def Bx.takeL (b : Bx) (n : Int) : List P2 := b.W.take (b.tk n)
def Bx.takeB (b : Bx) (n : Int) : Bx := ⟨b.W.drop (b.tk n), b.O ++ fsts (b.takeL n), b.A⟩
def Bx.ansE (b : Bx) (t : Int) : Int := if b.st t = 2 then 0 else 2
def Bx.ansB (b : Bx) (t x : Int) : Bx := if b.st t = 2 then ⟨b.W, b.O.filter (fun k => !decide (k = t)), b.A ++ [(t, x)]⟩ else b
def lookA (l : List P2) (m : Int) : Int := match l.find? (fun p => decide (p.1 = m)) with
  | some p => p.2
  | none => 0
def without (l : List P2) (m : Int) : List P2 := l.filter fun p => !decide (p.1 = m)
def Bx.hearV (b : Bx) (m : Int) : Int := if b.st m = 3 then lookA b.A m else 0
def Bx.hearB (b : Bx) (m : Int) : Bx := if b.st m = 3 then ⟨b.W, b.O, without b.A m⟩ else b

section
variable {b : Bx} {k f x t m : Int} {n : Int} {l : List P2} {j : Nat}
theorem fsts_append (l r : List P2) : fsts (l ++ r) = fsts l ++ fsts r := List.map_append
theorem fsts_len (l : List P2) : (fsts l).length = l.length := List.length_map _
theorem fsts_get {l : List P2} {j : Nat} (hj : j < l.length) : (fsts l).getD j 0 = (l.getD j (0, 0)).1 := by
  simp [fsts, List.getD_eq_getElem?_getD, hj]
theorem mem_who : k ∈ b.who ↔ k ∈ fsts b.W ∨ k ∈ b.O ∨ k ∈ fsts b.A := by simp [Bx.who]
theorem st_zero : b.st k = 0 ↔ k ∉ b.who := by
  rw [mem_who]
  unfold Bx.st
  by_cases h1 : k ∈ fsts b.W
  · simp [h1]
  · by_cases h2 : k ∈ b.O
    · simp [h1, h2]
    · by_cases h3 : k ∈ fsts b.A <;> simp [h1, h2, h3]
theorem st_range : 0 ≤ b.st k ∧ b.st k ≤ 3 := by
  unfold Bx.st
  split
  · decide
  · split
    · decide
    · split <;> decide
theorem Fit.parts (h : Fit b) : (fsts b.W).Nodup ∧ b.O.Nodup ∧ (fsts b.A).Nodup ∧ (∀ k ∈ fsts b.W, k ∉ b.O ∧ k ∉ fsts b.A) ∧ ∀ k ∈ b.O, k ∉ fsts b.A := by
  obtain ⟨h1, h2, h3⟩ := List.nodup_append.1 h.nd
  obtain ⟨h4, h5, h6⟩ := List.nodup_append.1 h2
  exact ⟨h1, h4, h5, fun k hk => ⟨fun x => h3 k hk k (List.mem_append_left _ x) rfl, fun x => h3 k hk k (List.mem_append_right _ x) rfl⟩, fun k hk x => h6 k hk k x rfl⟩
theorem st_two (h : Fit b) : b.st k = 2 ↔ k ∈ b.O := by
  obtain ⟨_, _, _, h4, h5⟩ := h.parts
  unfold Bx.st
  by_cases h1 : k ∈ fsts b.W
  · simp [h1, (h4 k h1).1]
  · by_cases h2 : k ∈ b.O
    · simp [h1, h2]
    · by_cases h3 : k ∈ fsts b.A <;> simp [h1, h2, h3]
theorem st_three (h : Fit b) : b.st k = 3 ↔ k ∈ fsts b.A := by
  obtain ⟨_, _, _, h4, h5⟩ := h.parts
  unfold Bx.st
  by_cases h1 : k ∈ fsts b.W
  · simp [h1, (h4 k h1).2]
  · by_cases h2 : k ∈ b.O
    · simp [h1, h2, h5 k h2]
    · by_cases h3 : k ∈ fsts b.A <;> simp [h1, h2, h3]
theorem isT_iff : isT k = true ↔ 0 ≤ k ∧ k < 64 := by simp [isT]
theorem good_new : Fit ⟨[], [], []⟩ := ⟨List.nodup_nil, fun k hk => (by cases hk), Nat.zero_le _⟩

/-! ### Post -/
theorem postE_zero : b.postE f = 0 ↔ (0 ≤ f ∧ f < 64) ∧ f ∉ b.who ∧ b.W.length < 8 := by
  rw [← isT_iff, ← st_zero]
  unfold Bx.postE
  by_cases h1 : isT f = true
  · by_cases h2 : b.st f = 0
    · by_cases h3 : b.W.length < 8 <;> simp [h1, h2, h3]
    · simp [h1, h2]
  · simp [h1]
theorem post_st (x : Int) : (Bx.mk (b.W ++ [(f, x)]) b.O b.A).st k = if k = f then 1 else b.st k := by
  unfold Bx.st
  show (if k ∈ fsts (b.W ++ [(f, x)]) then (1 : Int) else _) = _
  rw [fsts_append]
  by_cases h : k = f
  · rw [if_pos h, if_pos]
    rw [h]
    exact List.mem_append_right _ (List.mem_singleton.2 rfl)
  · rw [if_neg h]
    have e : (k ∈ fsts b.W ++ fsts [(f, x)]) = (k ∈ fsts b.W) := by
      rw [List.mem_append]
      simp [fsts, h]
    simp only [e]
theorem postB_good (h : Fit b) (f x : Int) : Fit (b.postB f x) := by
  unfold Bx.postB
  split
  · rename_i e
    obtain ⟨h1, h2, h3⟩ := postE_zero.1 e
    have hw : ∀ k, k ∈ (Bx.mk (b.W ++ [(f, x)]) b.O b.A).who ↔ k = f ∨ k ∈ b.who := fun k => by
      rw [mem_who, mem_who]
      show k ∈ fsts (b.W ++ [(f, x)]) ∨ _ ↔ _
      rw [fsts_append, List.mem_append]
      simp only [fsts, List.map_cons, List.map_nil, List.mem_singleton]
      constructor
      · rintro ((h | h) | h)
        · exact .inr (.inl h)
        · exact .inl h
        · exact .inr (.inr h)
      · rintro (h | h | h)
        · exact .inl (.inr h)
        · exact .inl (.inl h)
        · exact .inr h
    refine ⟨?_, fun k hk => ?_, ?_⟩
    · show (fsts (b.W ++ [(f, x)]) ++ (b.O ++ fsts b.A)).Nodup
      rw [fsts_append, List.append_assoc]
      obtain ⟨a1, a2, a3⟩ := List.nodup_append.1 h.nd
      refine List.nodup_append.2 ⟨a1, ?_, ?_⟩
      · show (f :: (b.O ++ fsts b.A)).Nodup
        refine List.nodup_cons.2 ⟨fun hf => h2 (List.mem_append_right _ hf), a2⟩
      · intro k hk y hy
        rcases List.mem_cons.1 (show y ∈ f :: (b.O ++ fsts b.A) from hy) with e | hy
        · exact fun e' => h2 (List.mem_append_left _ (by rw [← e, ← e']; exact hk))
        · exact a3 k hk y hy
    · rcases (hw k).1 hk with e | hk
      · rw [e]; exact h1
      · exact h.rng k hk
    · show (b.W ++ [(f, x)]).length ≤ 8
      rw [List.length_append]
      exact h3
  · exact h

/-! ### Take -/
theorem tk_le (b : Bx) (n : Int) : b.tk n ≤ b.W.length := Nat.min_le_right _ _
theorem takeL_len (b : Bx) (n : Int) : (b.takeL n).length = b.tk n := by
  unfold Bx.takeL
  rw [List.length_take]
  exact Nat.min_eq_left (tk_le b n)
theorem split_W (b : Bx) (n : Int) : fsts b.W = fsts (b.takeL n) ++ fsts (b.takeB n).W := by
  rw [← fsts_append]
  show _ = fsts (b.W.take (b.tk n) ++ b.W.drop (b.tk n))
  rw [List.take_append_drop]
theorem take_st (h : Fit b) (n : Int) : (b.takeB n).st k = if k ∈ fsts (b.takeL n) then 2 else b.st k := by
  obtain ⟨h1, _, _, h4, _⟩ := h.parts
  have hs := split_W b n
  have hd : ∀ k ∈ fsts (b.takeL n), k ∉ fsts (b.takeB n).W := fun k hk hx => by
    rw [hs] at h1
    exact (List.nodup_append.1 h1).2.2 k hk k hx rfl
  unfold Bx.st
  by_cases hk : k ∈ fsts (b.takeL n)
  · rw [if_neg (hd k hk), if_pos hk]
    show (if k ∈ b.O ++ fsts (b.takeL n) then (2 : Int) else _) = 2
    rw [if_pos (List.mem_append_right _ hk)]
  · rw [if_neg hk]
    have e1 : (k ∈ fsts b.W) = (k ∈ fsts (b.takeB n).W) := by
      rw [hs, List.mem_append]
      simp [hk]
    have e2 : (k ∈ (b.takeB n).O) = (k ∈ b.O) := by
      show (k ∈ b.O ++ fsts (b.takeL n)) = _
      rw [List.mem_append]
      simp [hk]
    simp only [e1, e2]
    rfl
theorem takeB_good (h : Fit b) (n : Int) : Fit (b.takeB n) := by
  have hs := split_W b n
  have hp : b.who.Perm (b.takeB n).who := by
    unfold Bx.who
    rw [hs]
    show (fsts (b.takeL n) ++ fsts (b.takeB n).W ++ (b.O ++ fsts b.A)).Perm (fsts (b.takeB n).W ++ (b.O ++ fsts (b.takeL n) ++ fsts b.A))
    refine (List.Perm.append_right _ List.perm_append_comm).trans ?_
    rw [List.append_assoc]
    refine List.Perm.append_left _ ?_
    rw [List.append_assoc]
    refine List.perm_append_comm.trans ?_
    rw [List.append_assoc]
    exact List.Perm.append_left _ List.perm_append_comm
  refine ⟨hp.nodup_iff.1 h.nd, fun k hk => h.rng k (hp.mem_iff.2 hk), ?_⟩
  have := h.len
  show (b.W.drop _).length ≤ 8
  rw [List.length_drop]
  omega

/-! ### Answer -/
theorem mem_del {l : List Int} : k ∈ l.filter (fun k => !decide (k = t)) ↔ k ∈ l ∧ k ≠ t := by simp
theorem ans_st (h : Fit b) (ht : b.st t = 2) (x : Int) : (Bx.mk b.W (b.O.filter (fun k => !decide (k = t))) (b.A ++ [(t, x)])).st k = if k = t then 3 else b.st k := by
  obtain ⟨_, _, _, h4, _⟩ := h.parts
  have hO := (st_two h).1 ht
  unfold Bx.st
  show (if k ∈ fsts b.W then (1 : Int) else if k ∈ b.O.filter (fun k => !decide (k = t)) then 2 else if k ∈ fsts (b.A ++ [(t, x)]) then 3 else 0) = _
  rw [fsts_append]
  by_cases hk : k = t
  · subst hk
    rw [if_neg fun h => (h4 k h).1 hO, if_neg (by simp), if_pos (show k ∈ fsts b.A ++ fsts [(k, x)] from List.mem_append_right _ (List.mem_singleton.2 rfl)), if_pos rfl]
  · rw [if_neg hk]
    have e1 : (k ∈ b.O.filter (fun k => !decide (k = t))) = (k ∈ b.O) := by rw [mem_del]; simp [hk]
    have e2 : (k ∈ fsts b.A ++ fsts [(t, x)]) = (k ∈ fsts b.A) := by
      rw [List.mem_append]
      simp [fsts, hk]
    simp only [e1, e2]
theorem ansB_good (h : Fit b) (t x : Int) : Fit (b.ansB t x) := by
  unfold Bx.ansB
  split
  · rename_i ht
    obtain ⟨h1, h2, h3, h4, h5⟩ := h.parts
    have hO := (st_two h).1 ht
    refine ⟨?_, fun k hk => ?_, h.len⟩
    · show (fsts b.W ++ (b.O.filter (fun k => !decide (k = t)) ++ fsts (b.A ++ [(t, x)]))).Nodup
      rw [fsts_append]
      have hA : (fsts b.A ++ fsts [(t, x)]).Nodup := List.nodup_append.2 ⟨h3, by simp [fsts], fun a ha y hy => by
        simp only [fsts, List.map_cons, List.map_nil, List.mem_singleton] at hy
        exact fun e => h5 t hO (by rw [← hy, ← e]; exact ha)⟩
      refine List.nodup_append.2 ⟨h1, List.nodup_append.2 ⟨h2.filter _, hA, fun a ha y hy => ?_⟩, fun a ha y hy => ?_⟩
      · obtain ⟨ha1, ha2⟩ := mem_del.1 ha
        rcases List.mem_append.1 hy with hy | hy
        · exact fun e => h5 a ha1 (by rw [e]; exact hy)
        · simp only [fsts, List.map_cons, List.map_nil, List.mem_singleton] at hy
          rw [hy]; exact ha2
      · rcases List.mem_append.1 hy with hy | hy
        · exact fun e => (h4 a ha).1 (by rw [e]; exact (mem_del.1 hy).1)
        · rcases List.mem_append.1 hy with hy | hy
          · exact fun e => (h4 a ha).2 (by rw [e]; exact hy)
          · simp only [fsts, List.map_cons, List.map_nil, List.mem_singleton] at hy
            exact fun e => (h4 a ha).1 (by rw [e, hy]; exact hO)
    · refine h.rng k ?_
      rw [mem_who]
      rcases mem_who.1 hk with hk | hk | hk
      · exact .inl hk
      · exact .inr (.inl (mem_del.1 hk).1)
      · have hk : k ∈ fsts (b.A ++ [(t, x)]) := hk
        rw [fsts_append] at hk
        rcases List.mem_append.1 hk with hk | hk
        · exact .inr (.inr hk)
        · simp only [fsts, List.map_cons, List.map_nil, List.mem_singleton] at hk
          exact .inr (.inl (by rw [hk]; exact hO))
  · exact h

/-! ### Hear -/
theorem without_fsts (l : List P2) (m : Int) : fsts (without l m) = (fsts l).filter (fun k => !decide (k = m)) := by
  induction l with
  | nil => rfl
  | cons p l ih =>
    by_cases h : p.1 = m
    · have : without (p :: l) m = without l m := List.filter_cons_of_neg (by simpa using h)
      rw [this, ih]
      show _ = (p.1 :: fsts l).filter _
      rw [List.filter_cons_of_neg (by simpa using h)]
    · have : without (p :: l) m = p :: without l m := List.filter_cons_of_pos (by simpa using h)
      rw [this]
      show p.1 :: fsts (without l m) = (p.1 :: fsts l).filter _
      rw [List.filter_cons_of_pos (by simpa using h), ih]
theorem hear_st (h : Fit b) (hm : b.st m = 3) : (Bx.mk b.W b.O (without b.A m)).st k = if k = m then 0 else b.st k := by
  obtain ⟨_, _, _, h4, h5⟩ := h.parts
  have hA := (st_three h).1 hm
  unfold Bx.st
  show (if k ∈ fsts b.W then (1 : Int) else if k ∈ b.O then 2 else if k ∈ fsts (without b.A m) then 3 else 0) = _
  rw [without_fsts]
  by_cases hk : k = m
  · subst hk
    rw [if_neg fun h => (h4 k h).2 hA, if_neg fun h => h5 k h hA, if_neg (by simp), if_pos rfl]
  · rw [if_neg hk]
    have e1 : (k ∈ (fsts b.A).filter (fun k => !decide (k = m))) = (k ∈ fsts b.A) := by rw [mem_del]; simp [hk]
    simp only [e1]
theorem hearB_good (h : Fit b) (m : Int) : Fit (b.hearB m) := by
  unfold Bx.hearB
  split
  · refine ⟨?_, fun k hk => h.rng k ?_, h.len⟩
    · show (fsts b.W ++ (b.O ++ fsts (without b.A m))).Nodup
      rw [without_fsts]
      obtain ⟨h1, h2, h3⟩ := List.nodup_append.1 h.nd
      obtain ⟨h4, h5, h6⟩ := List.nodup_append.1 h2
      refine List.nodup_append.2 ⟨h1, List.nodup_append.2 ⟨h4, h5.filter _, fun a ha y hy => h6 a ha y (mem_del.1 hy).1⟩, fun a ha y hy => h3 a ha y ?_⟩
      rcases List.mem_append.1 hy with hy | hy
      · exact List.mem_append_left _ hy
      · exact List.mem_append_right _ (mem_del.1 hy).1
    · rw [mem_who]
      rcases mem_who.1 hk with hk | hk | hk
      · exact .inl hk
      · exact .inr (.inl hk)
      · have hk : k ∈ fsts (without b.A m) := hk
        rw [without_fsts] at hk
        exact .inr (.inr (mem_del.1 hk).1)
  · exact h
theorem look_none {l : List P2} (h : m ∉ fsts l) : lookA l m = 0 := by
  unfold lookA
  have : l.find? (fun p => decide (p.1 = m)) = none := List.find?_eq_none.2 fun p hp => by
    simp only [decide_eq_true_eq]
    exact fun e => h (List.mem_map.2 ⟨p, hp, e⟩)
  rw [this]
theorem take_snocP {l : List P2} {j : Nat} (hj : j < l.length) : l.take (j + 1) = l.take j ++ [l.getD j (0, 0)] := by
  rw [List.take_add_one, List.getD_eq_getElem?_getD, List.getElem?_eq_getElem hj]; rfl
theorem take_snocI {l : List Int} {j : Nat} (hj : j < l.length) : l.take (j + 1) = l.take j ++ [l.getD j 0] := by
  rw [List.take_add_one, List.getD_eq_getElem?_getD, List.getElem?_eq_getElem hj]; rfl
theorem fsts_take (l : List P2) (j : Nat) : fsts (l.take j) = (fsts l).take j := List.map_take
/-- One answer more is looked at: it is m's; it is another's. -/
theorem look_hit {l : List P2} {j : Nat} (hn : (fsts l).Nodup) (hj : j < l.length) (h : (l.getD j (0, 0)).1 = m) : lookA (l.take (j + 1)) m = (l.getD j (0, 0)).2 ∧ without (l.take (j + 1)) m = without (l.take j) m := by
  rw [take_snocP hj]
  have hno : m ∉ fsts (l.take j) := fun hx => by
    have e := take_snocP hj
    have h2 : (fsts (l.take (j + 1))).Nodup := by rw [fsts_take]; exact hn.sublist (List.take_sublist _ _)
    rw [e, fsts_append] at h2
    exact (List.nodup_append.1 h2).2.2 m hx m (List.mem_singleton.2 h.symm) rfl
  constructor
  · unfold lookA
    rw [List.find?_append]
    have : (l.take j).find? (fun p => decide (p.1 = m)) = none := List.find?_eq_none.2 fun p hp => by
      simp only [decide_eq_true_eq]
      exact fun e => hno (List.mem_map.2 ⟨p, hp, e⟩)
    rw [this, Option.none_or, List.find?_cons_of_pos (by simpa using h)]
  · unfold without
    rw [List.filter_append, List.filter_cons_of_neg (by simpa using h)]
    simp
theorem look_miss {l : List P2} {j : Nat} (hj : j < l.length) (h : (l.getD j (0, 0)).1 ≠ m) : lookA (l.take (j + 1)) m = lookA (l.take j) m ∧ without (l.take (j + 1)) m = without (l.take j) m ++ [l.getD j (0, 0)] := by
  rw [take_snocP hj]
  constructor
  · unfold lookA
    rw [List.find?_append, List.find?_cons_of_neg (by simpa using h), List.find?_nil, Option.or_none]
  · unfold without
    rw [List.filter_append, List.filter_cons_of_pos (by simpa using h)]
    rfl
theorem without_len (l : List P2) (m : Int) : (without l m).length ≤ l.length := List.length_filter_le _ _

/-! ### How many may have an answer -/
theorem few : ∀ (n : Nat) (l : List Int), l.Nodup → (∀ k ∈ l, 0 ≤ k ∧ k < (n : Int)) → l.length ≤ n
  | 0, l, _, h => by
    cases l with
    | nil => exact Nat.le_refl _
    | cons k l => have := h k (List.mem_cons_self ..); omega
  | n + 1, l, hn, h => by
    have h1 := few n (l.erase (n : Int)) (hn.erase _) fun k hk => by
      have hm := List.mem_of_mem_erase hk
      have hne : k ≠ (n : Int) := fun e => by rw [e] at hk; exact (hn.not_mem_erase hk)
      have := h k hm
      omega
    have h2 := List.length_erase (a := (n : Int)) (l := l)
    split at h2 <;> omega
theorem Fit.lens (h : Fit b) : b.W.length + b.O.length + b.A.length ≤ 64 := by
  have := few 64 b.who h.nd h.rng
  unfold Bx.who at this
  rw [List.length_append, List.length_append, fsts_len, fsts_len] at this
  omega

/-! ### Places -/
theorem idx_hit {l : List Int} {j : Nat} (hn : l.Nodup) (hj : j < l.length) : idxI l (l.getD j 0) = (j : Int) := by
  have hm : l.getD j 0 = l[j] := by rw [List.getD_eq_getElem?_getD, List.getElem?_eq_getElem hj]; rfl
  unfold idxI
  rw [hm, if_pos (List.getElem_mem hj), hn.idxOf_getElem]
theorem idx_none {l : List Int} (h : ∀ i, i < l.length → l.getD i 0 ≠ k) : idxI l k = -1 := by
  unfold idxI
  rw [if_neg]
  intro hm
  obtain ⟨i, hi, e⟩ := List.getElem_of_mem hm
  refine h i hi ?_
  rw [List.getD_eq_getElem?_getD, List.getElem?_eq_getElem hi]
  exact e
theorem idx_neg (l : List Int) (k : Int) : (k ∉ l ∧ idxI l k = -1) ∨ (k ∈ l ∧ ∃ j : Nat, j < l.length ∧ idxI l k = (j : Int) ∧ l.getD j 0 = k) := by
  by_cases h : k ∈ l
  · refine .inr ⟨h, l.idxOf k, List.idxOf_lt_length_of_mem h, by unfold idxI; rw [if_pos h], ?_⟩
    rw [List.getD_eq_getElem?_getD, List.getElem?_eq_getElem (List.idxOf_lt_length_of_mem h)]
    exact List.getElem_idxOf (List.idxOf_lt_length_of_mem h)
  · exact .inl ⟨h, by unfold idxI; rw [if_neg h]⟩
theorem del_at : ∀ (l : List Int) (j : Nat), l.Nodup → j < l.length → l.take j ++ l.drop (j + 1) = l.filter (fun k => !decide (k = l.getD j 0))
  | [], j, _, h => absurd h (Nat.not_lt_zero _)
  | a :: l, 0, hn, _ => by
    show l = (a :: l).filter _
    rw [List.getD_cons_zero, List.filter_cons_of_neg (by simp)]
    refine (List.filter_eq_self.2 fun k hk => ?_).symm
    have : k ≠ a := fun e => (List.nodup_cons.1 hn).1 (by rw [← e]; exact hk)
    simpa using this
  | a :: l, j + 1, hn, h => by
    obtain ⟨h1, h2⟩ := List.nodup_cons.1 hn
    have hj : j < l.length := by simpa using h
    have hm : l.getD j 0 ∈ l := by
      rw [List.getD_eq_getElem?_getD, List.getElem?_eq_getElem hj]
      exact List.getElem_mem hj
    have hne : a ≠ l.getD j 0 := fun e => h1 (by rw [e]; exact hm)
    show a :: (l.take j ++ l.drop (j + 1)) = (a :: l).filter _
    rw [List.getD_cons_succ, List.filter_cons_of_pos (by simpa using hne), del_at l j h2 hj]
theorem without_at : ∀ (l : List P2) (j : Nat), (fsts l).Nodup → j < l.length → l.take j ++ l.drop (j + 1) = without l (l.getD j (0, 0)).1 ∧ lookA l (l.getD j (0, 0)).1 = (l.getD j (0, 0)).2
  | [], j, _, h => absurd h (Nat.not_lt_zero _)
  | a :: l, 0, hn, _ => by
    constructor
    · show l = (a :: l).filter _
      rw [List.getD_cons_zero, List.filter_cons_of_neg (by simp)]
      refine (List.filter_eq_self.2 fun k hk => ?_).symm
      have : k.1 ≠ a.1 := fun e => (List.nodup_cons.1 hn).1 (List.mem_map.2 ⟨k, hk, e⟩)
      simpa using this
    · unfold lookA
      rw [List.getD_cons_zero, List.find?_cons_of_pos (by simp)]
  | a :: l, j + 1, hn, h => by
    obtain ⟨h1, h2⟩ := List.nodup_cons.1 (show (a.1 :: fsts l).Nodup from hn)
    have hj : j < l.length := by simpa using h
    have hm : (l.getD j (0, 0)).1 ∈ fsts l := by
      rw [List.getD_eq_getElem?_getD, List.getElem?_eq_getElem hj]
      exact List.mem_map.2 ⟨_, List.getElem_mem hj, rfl⟩
    have hne : a.1 ≠ (l.getD j (0, 0)).1 := fun e => h1 (by rw [e]; exact hm)
    obtain ⟨i1, i2⟩ := without_at l j h2 hj
    constructor
    · show a :: (l.take j ++ l.drop (j + 1)) = (a :: l).filter _
      rw [List.getD_cons_succ, List.filter_cons_of_pos (by simpa using hne), i1]
      rfl
    · rw [List.getD_cons_succ]
      unfold lookA
      rw [List.find?_cons_of_neg (by simpa using hne)]
      exact i2
end
end Go.Proofs.Ytmealcbcphfpdaa.MailM
