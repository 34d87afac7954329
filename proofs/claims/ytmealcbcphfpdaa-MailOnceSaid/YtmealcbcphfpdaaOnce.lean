/-
  What MailOnce keeps beside its box (chapter 9), as mathematics: how many words each one sent, had answered, heard; who waits in turn. No program is named here.
-/
import Derived.Test.YtmealcbcphfpdaaMailMath
namespace Go.Proofs.Ytmealcbcphfpdaa.Once
open Go.Proofs.Ytmealcbcphfpdaa.Prs Go.Proofs.Ytmealcbcphfpdaa.MailM

section
variable {l r : List P2} {k m y : Int}
theorem look_old (h : k ∈ fsts l) : lookA (l ++ r) k = lookA l k := by
  unfold lookA
  rw [List.find?_append]
  obtain ⟨p, hp, e⟩ := List.mem_map.1 h
  cases hf : l.find? (fun p => decide (p.1 = k)) with
  | none => exact absurd (List.find?_eq_none.1 hf p hp) (by simpa using e)
  | some q => rfl
theorem look_new (h : k ∉ fsts l) : lookA (l ++ [(k, y)]) k = y := by
  unfold lookA
  have : l.find? (fun p => decide (p.1 = k)) = none := List.find?_eq_none.2 fun p hp => by
    simp only [decide_eq_true_eq]
    exact fun e => h (List.mem_map.2 ⟨p, hp, e⟩)
  rw [List.find?_append, this, Option.none_or, List.find?_cons_of_pos (by simp)]
theorem look_without (h : k ≠ m) : ∀ l : List P2, lookA (without l m) k = lookA l k
  | [] => rfl
  | p :: l => by
    have ih := look_without h l
    unfold lookA at *
    unfold without at *
    by_cases e : p.1 = m
    · rw [List.filter_cons_of_neg (by simpa using e), ih, List.find?_cons_of_neg (p := fun p : P2 => decide (p.1 = k)) (by simp only [decide_eq_true_eq]; exact fun e2 => h (e2.symm.trans e))]
    · rw [List.filter_cons_of_pos (by simpa using e)]
      by_cases e2 : p.1 = k
      · rw [List.find?_cons_of_pos (by simpa using e2), List.find?_cons_of_pos (by simpa using e2)]
      · rw [List.find?_cons_of_neg (by simpa using e2), List.find?_cons_of_neg (by simpa using e2), ih]
end

def upd (f : Nat → Nat) (a v : Nat) (i : Nat) : Nat := if i = a then v else f i
theorem upd_same (f : Nat → Nat) (a v : Nat) : upd f a v a = v := if_pos rfl
theorem upd_other (f : Nat → Nat) {a i : Nat} (v : Nat) (h : i ≠ a) : upd f a v i = f i := if_neg h
def word (SN : Nat → Nat) (t : Nat) : P2 := ((t : Int), 100 * (t : Int) + (SN t : Int) - 1)
abbrev ints (q : List Nat) : List Int := q.map fun t : Nat => (t : Int)
/-- q wait, o are open. -/
structure Inv (b : Bx) (SN GT HD : Nat → Nat) (q o : List Nat) : Prop where
  W : b.W = q.map (word SN)
  O : b.O = ints o
  lt : ∀ t ∈ o ++ q, t < 12
  nd : (o ++ q).Nodup
  st : ∀ t, t < 12 → (t ∈ o ++ q ∧ (t : Int) ∉ fsts b.A ∧ SN t = HD t + 1 ∧ GT t = HD t) ∨ (t ∉ o ++ q ∧ (t : Int) ∈ fsts b.A ∧ SN t = HD t + 1 ∧ GT t = HD t + 1 ∧ lookA b.A (t : Int) = 7 * (100 * (t : Int) + (SN t : Int) - 1)) ∨ (t ∉ o ++ q ∧ (t : Int) ∉ fsts b.A ∧ SN t = HD t ∧ GT t = HD t)

theorem fsts_word (SN : Nat → Nat) (q : List Nat) : fsts (q.map (word SN)) = ints q := by
  unfold fsts
  rw [List.map_map]
  rfl
theorem mem_ints {q : List Nat} {t : Nat} : (t : Int) ∈ ints q ↔ t ∈ q := by
  constructor
  · intro h
    obtain ⟨x, hx, e⟩ := List.mem_map.1 h
    have : x = t := by omega
    rwa [← this]
  · intro h
    exact List.mem_map.2 ⟨t, h, rfl⟩
section
variable {b : Bx} {SN GT HD : Nat → Nat} {q o : List Nat} {t : Nat}
theorem Inv.who (h : Inv b SN GT HD q o) (t : Nat) : (t : Int) ∈ b.who ↔ t ∈ o ++ q ∨ (t : Int) ∈ fsts b.A := by
  rw [mem_who, h.W, h.O, fsts_word, mem_ints, mem_ints, List.mem_append]
  constructor
  · rintro (h | h | h)
    · exact .inl (.inr h)
    · exact .inl (.inl h)
    · exact .inr h
  · rintro ((h | h) | h)
    · exact .inr (.inl h)
    · exact .inl h
    · exact .inr (.inr h)
theorem Inv.len (h : Inv b SN GT HD q o) : b.W.length = q.length := by rw [h.W, List.length_map]
theorem Inv.new : Inv ⟨[], [], []⟩ (fun _ => 0) (fun _ => 0) (fun _ => 0) [] [] :=
  ⟨rfl, rfl, fun t h => (by cases h), List.nodup_nil, fun t _ => .inr (.inr ⟨by simp, by simp [fsts], rfl, rfl⟩)⟩

theorem Inv.post (h : Inv b SN GT HD q []) (ht : t < 12) :
    (b.postE (t : Int) = 0 ∧ SN t = HD t ∧ q.length < 8 ∧ Inv (b.postB (t : Int) (100 * (t : Int) + (SN t : Int))) (upd SN t (SN t + 1)) GT HD (q ++ [t]) []) ∨
    (b.postE (t : Int) = 13 ∧ SN t ≠ HD t ∧ b.postB (t : Int) (100 * (t : Int) + (SN t : Int)) = b) ∨ (b.postE (t : Int) = 8 ∧ b.postB (t : Int) (100 * (t : Int) + (SN t : Int)) = b) := by
  have hT : isT (t : Int) = true := isT_iff.2 ⟨by omega, by omega⟩
  have hlt := h.lt
  have hnd := h.nd
  simp only [List.nil_append] at hlt hnd
  by_cases hw : (t : Int) ∈ b.who
  · have hs : b.st (t : Int) ≠ 0 := fun e => st_zero.1 e hw
    have he : b.postE (t : Int) = 13 := by unfold Bx.postE; rw [hT, if_pos rfl, if_neg hs]
    refine .inr (.inl ⟨he, ?_, by unfold Bx.postB; rw [he, if_neg (by decide)]⟩)
    rcases h.st t ht with ⟨_, _, e, _⟩ | ⟨_, _, e, _⟩ | ⟨e1, e2, _⟩
    · omega
    · omega
    · rcases (h.who t).1 hw with e | e
      · exact absurd e e1
      · exact absurd e e2
  · have hs : b.st (t : Int) = 0 := st_zero.2 hw
    by_cases h8 : b.W.length < 8
    · have he : b.postE (t : Int) = 0 := by unfold Bx.postE; rw [hT, if_pos rfl, if_pos hs, if_pos h8]
      have hq : t ∉ q := fun e => hw ((h.who t).2 (.inl (by simpa using e)))
      have hA : (t : Int) ∉ fsts b.A := fun e => hw ((h.who t).2 (.inr e))
      have hst : SN t = HD t ∧ GT t = HD t := by
        rcases h.st t ht with ⟨e, _⟩ | ⟨_, e, _⟩ | ⟨_, _, e1, e2⟩
        · exact absurd (by simpa using e) hq
        · exact absurd e hA
        · exact ⟨e1, e2⟩
      refine .inl ⟨he, hst.1, by rw [← h.len]; exact h8, ?_⟩
      unfold Bx.postB
      rw [if_pos he]
      refine ⟨?_, h.O, ?_, ?_, ?_⟩
      · show b.W ++ [((t : Int), 100 * (t : Int) + (SN t : Int))] = (q ++ [t]).map _
        rw [h.W, List.map_append]
        congr 1
        · refine List.map_congr_left fun x hx => ?_
          unfold word
          rw [upd_other _ _ (fun e => hq (by rw [← e]; exact hx))]
        · show _ = [word _ t]
          unfold word
          rw [upd_same]
          congr 2
          omega
      · intro x hx
        rcases List.mem_append.1 (show x ∈ q ++ [t] by simpa using hx) with hx | hx
        · exact hlt x hx
        · rw [List.mem_singleton.1 hx]; exact ht
      · show ([] ++ (q ++ [t])).Nodup
        rw [List.nil_append]
        refine List.nodup_append.2 ⟨hnd, by simp, fun a ha y hy => ?_⟩
        rw [List.mem_singleton.1 hy]
        exact fun e => hq (by rw [← e]; exact ha)
      · intro x hx
        show (x ∈ [] ++ (q ++ [t]) ∧ _ ∉ fsts b.A ∧ _) ∨ (x ∉ [] ++ (q ++ [t]) ∧ _ ∈ fsts b.A ∧ _) ∨ (x ∉ [] ++ (q ++ [t]) ∧ _ ∉ fsts b.A ∧ _)
        simp only [List.nil_append, List.mem_append, List.mem_singleton]
        by_cases e : x = t
        · subst e
          rw [upd_same]
          exact .inl ⟨.inr rfl, hA, by omega, hst.2⟩
        · rw [upd_other _ _ e]
          have := h.st x hx
          simp only [List.nil_append] at this
          simpa [e] using this
    · have he : b.postE (t : Int) = 8 := by unfold Bx.postE; rw [hT, if_pos rfl, if_pos hs, if_neg h8]
      exact .inr (.inr ⟨he, by unfold Bx.postB; rw [he, if_neg (by decide)]⟩)

theorem Inv.take (h : Inv b SN GT HD q []) (n : Int) : b.takeL n = (q.take (b.tk n)).map (word SN) ∧ Inv (b.takeB n) SN GT HD (q.drop (b.tk n)) (q.take (b.tk n)) := by
  have hu : b.takeL n = (q.take (b.tk n)).map (word SN) := by
    unfold Bx.takeL
    rw [h.W, List.map_take]
  have hO : b.O = [] := h.O
  refine ⟨hu, ⟨?_, ?_, ?_, ?_, ?_⟩⟩
  · show b.W.drop (b.tk n) = _
    rw [List.map_drop]
    congr 1
    exact h.W
  · show b.O ++ fsts (b.takeL n) = _
    rw [hO, hu, fsts_word, List.nil_append]
  · intro t ht
    rw [List.take_append_drop] at ht
    exact h.lt t (by simpa using ht)
  · rw [List.take_append_drop]
    simpa using h.nd
  · intro t ht
    rw [List.take_append_drop]
    have := h.st t ht
    rw [List.nil_append] at this
    exact this

theorem Inv.answer (h : Inv b SN GT HD q (t :: o)) (g : Fit b) : b.ansE (t : Int) = 0 ∧ Inv (b.ansB (t : Int) (7 * (word SN t).2)) SN (upd GT t (GT t + 1)) HD q o ∧ (b.ansB (t : Int) (7 * (word SN t).2)).ansE (t : Int) = 2 ∧ (b.ansB (t : Int) (7 * (word SN t).2)).ansB (t : Int) 1 = b.ansB (t : Int) (7 * (word SN t).2) := by
  have hm : (t : Int) ∈ b.O := by rw [h.O]; exact mem_ints.2 (List.mem_cons_self ..)
  have hst : b.st (t : Int) = 2 := (st_two g).2 hm
  have ht : t < 12 := h.lt t (List.mem_append_left _ (List.mem_cons_self ..))
  obtain ⟨hn1, hn2⟩ := List.nodup_cons.1 (show (t :: (o ++ q)).Nodup from h.nd)
  have hA : (t : Int) ∉ fsts b.A ∧ SN t = HD t + 1 ∧ GT t = HD t := by
    rcases h.st t ht with ⟨_, e⟩ | ⟨e, _⟩ | ⟨e, _⟩
    · exact e
    · exact absurd (List.mem_append_left _ (List.mem_cons_self ..)) e
    · exact absurd (List.mem_append_left _ (List.mem_cons_self ..)) e
  have hB : b.ansB (t : Int) (7 * (word SN t).2) = ⟨b.W, b.O.filter (fun k => !decide (k = (t : Int))), b.A ++ [((t : Int), 7 * (word SN t).2)]⟩ := by unfold Bx.ansB; rw [if_pos hst]
  have h3 : (b.ansB (t : Int) (7 * (word SN t).2)).st (t : Int) = 3 := by
    rw [hB, ans_st g hst, if_pos rfl]
  refine ⟨by unfold Bx.ansE; rw [if_pos hst], ?_, by unfold Bx.ansE; rw [h3]; rfl, by rw [Bx.ansB, if_neg (by rw [h3]; decide)]⟩
  rw [hB]
  refine ⟨h.W, ?_, fun x hx => h.lt x (List.mem_cons_of_mem _ hx), hn2, fun x hx => ?_⟩
  · show b.O.filter _ = _
    rw [h.O]
    show ((t : Int) :: ints o).filter _ = _
    rw [List.filter_cons_of_neg (by simp)]
    refine List.filter_eq_self.2 fun k hk => ?_
    obtain ⟨y, hy, rfl⟩ := List.mem_map.1 hk
    have : y ≠ t := fun e => hn1 (List.mem_append_left _ (by rw [← e]; exact hy))
    simp only [Bool.not_eq_true', decide_eq_false_iff_not]
    omega
  · have hf : fsts (b.A ++ [((t : Int), 7 * (word SN t).2)]) = fsts b.A ++ [(t : Int)] := fsts_append _ _
    show (x ∈ o ++ q ∧ _ ∉ fsts (b.A ++ _) ∧ _) ∨ (x ∉ o ++ q ∧ _ ∈ fsts (b.A ++ _) ∧ _) ∨ (x ∉ o ++ q ∧ _ ∉ fsts (b.A ++ _) ∧ _)
    rw [hf]
    by_cases e : x = t
    · subst e
      rw [upd_same]
      refine .inr (.inl ⟨hn1, List.mem_append_right _ (List.mem_singleton.2 rfl), hA.2.1, by omega, ?_⟩)
      exact look_new hA.1
    · rw [upd_other _ _ e]
      have hmem : ((x : Int) ∈ fsts b.A ++ [(t : Int)]) ↔ (x : Int) ∈ fsts b.A := by
        rw [List.mem_append, List.mem_singleton]
        constructor
        · rintro (h | h)
          · exact h
          · omega
        · exact .inl
      have hq : x ∈ t :: (o ++ q) ↔ x ∈ o ++ q := by rw [List.mem_cons]; simp [e]
      rw [hmem]
      rcases h.st x hx with ⟨a1, a2⟩ | ⟨a1, a2, a3, a4, a5⟩ | ⟨a1, a2⟩
      · exact .inl ⟨hq.1 a1, a2⟩
      · exact .inr (.inl ⟨fun e => a1 (hq.2 e), a2, a3, a4, by rw [← a5]; exact look_old a2⟩)
      · exact .inr (.inr ⟨fun e => a1 (hq.2 e), a2⟩)

theorem Inv.hear (h : Inv b SN GT HD q []) (g : Fit b) (ht : t < 12) :
    (b.st (t : Int) = 3 ∧ GT t = HD t + 1 ∧ b.hearV (t : Int) = 7 * (100 * (t : Int) + (SN t : Int) - 1) ∧ Inv (b.hearB (t : Int)) SN GT (upd HD t (HD t + 1)) q []) ∨
    (b.st (t : Int) ≠ 3 ∧ GT t = HD t ∧ b.hearV (t : Int) = 0 ∧ b.hearB (t : Int) = b) := by
  by_cases h3 : b.st (t : Int) = 3
  · have hA := (st_three g).1 h3
    have hst : t ∉ q ∧ SN t = HD t + 1 ∧ GT t = HD t + 1 ∧ lookA b.A (t : Int) = 7 * (100 * (t : Int) + (SN t : Int) - 1) := by
      rcases h.st t ht with ⟨_, e, _⟩ | ⟨e0, _, e1, e2, e3⟩ | ⟨_, e, _⟩
      · exact absurd hA e
      · exact ⟨fun e => e0 (by simpa using e), e1, e2, e3⟩
      · exact absurd hA e
    refine .inl ⟨h3, hst.2.2.1, by unfold Bx.hearV; rw [if_pos h3]; exact hst.2.2.2, ?_⟩
    unfold Bx.hearB
    rw [if_pos h3]
    refine ⟨h.W, h.O, h.lt, h.nd, fun x hx => ?_⟩
    show (x ∈ [] ++ q ∧ _ ∉ fsts (without b.A _) ∧ _) ∨ (x ∉ [] ++ q ∧ _ ∈ fsts (without b.A _) ∧ _) ∨ (x ∉ [] ++ q ∧ _ ∉ fsts (without b.A _) ∧ _)
    rw [without_fsts]
    by_cases e : x = t
    · subst e
      rw [upd_same]
      exact .inr (.inr ⟨by simpa using hst.1, by simp, hst.2.1, hst.2.2.1⟩)
    · rw [upd_other _ _ e]
      have hne : (x : Int) ≠ (t : Int) := by omega
      have hmem : ((x : Int) ∈ (fsts b.A).filter (fun k => !decide (k = (t : Int)))) ↔ (x : Int) ∈ fsts b.A := by rw [mem_del]; simp [hne]
      rw [hmem]
      rcases h.st x hx with a | ⟨a1, a2, a3, a4, a5⟩ | a
      · exact .inl a
      · exact .inr (.inl ⟨a1, a2, a3, a4, by rw [← a5]; exact look_without hne _⟩)
      · exact .inr (.inr a)
  · refine .inr ⟨h3, ?_, by unfold Bx.hearV; rw [if_neg h3], by unfold Bx.hearB; rw [if_neg h3]⟩
    rcases h.st t ht with ⟨_, _, _, e⟩ | ⟨_, e, _⟩ | ⟨_, _, _, e⟩
    · exact e
    · exact absurd ((st_three g).2 e) h3
    · exact e
end
end Go.Proofs.Ytmealcbcphfpdaa.Once
