/-
  A schedule as mathematics, more: one task alone; the life of a task.
-/
import Derived.Test.YtboglnaagigcmaaSchMath
namespace Go.Proofs.Ytboglnaagigcmaa.SchM

/-! ### One alone -/
theorem nodup_one {k : Nat} : ∀ l : List Nat, l.Nodup → k ∈ l → (∀ j ∈ l, j = k) → l = [k]
  | [], _, h, _ => by cases h
  | [a], _, _, h => by rw [h a (by simp)]
  | a :: b :: l, hn, _, h => by
    have h1 := h a (by simp)
    have h2 := h b (by simp)
    rw [h1, h2] at hn
    simp at hn
theorem which_one {T : Sc} {s o : Int} {k : Nat} (hk : k < T.n) (hs : T.S k = s) (ho : T.O k = o) (h : ∀ j, j < T.n → j ≠ k → T.S j ≠ s ∨ T.O j ≠ o) : which T s o = [k] :=
  nodup_one _ (which_nodup T s o) (mem_which.2 ⟨hk, hs, ho⟩) fun j hj => by
    obtain ⟨a, b, c⟩ := mem_which.1 hj
    refine Classical.byContradiction fun e => ?_
    rcases h j a e with x | x
    · exact x b
    · exact x c
theorem which_nothing {T : Sc} {s o : Int} (h : ∀ j, j < T.n → T.S j ≠ s ∨ T.O j ≠ o) : which T s o = [] :=
  List.eq_nil_iff_forall_not_mem.2 fun j hj => by
    obtain ⟨a, b, c⟩ := mem_which.1 hj
    rcases h j a with x | x
    · exact x b
    · exact x c
theorem pick_one {T : Sc} {k : Nat} (h : T.ready = [k]) (n : Int) : T.pick n = (k : Int) := by
  unfold Sc.pick
  rw [h, if_neg (by simp)]
  have : (n % (([k] : List Nat).length : Int)).toNat = 0 := by
    show (n % 1).toNat = 0
    omega
  rw [this]
  rfl
/-- The life of a task (7.1), of ten. -/
theorem turns_math {k : Nat} (hk : k < 10) {x y o : Int} (hx : 0 ≤ x) (hy : 0 ≤ y) (ho : 0 ≤ o) : ∃ T1 T2 T3 T4 T5 T6 : Sc,
    ((fresh 10).wakeB (k : Int) x = true ∧ (fresh 10).wake (k : Int) x = T1) ∧ (T1.wakeB (k : Int) x = false ∧ T1.wake (k : Int) x = T1) ∧ (T1.goB (k : Int) y = true ∧ T1.go (k : Int) y = T2) ∧
    (T2.goB (k : Int) o = true ∧ T2.block (k : Int) o = T3) ∧ (T3.goB (k : Int) x = false ∧ T3.go (k : Int) x = T3) ∧ (T3.doneB (k : Int) = false ∧ T3.done (k : Int) = T3) ∧
    (T3.n = 10 ∧ T3.S k = 2 ∧ T3.P k = y ∧ T3.O k = o) ∧ (which T3 2 (o + 1) = [] ∧ T3.free (o + 1) = T3) ∧ (which T3 2 o = [k] ∧ T3.free o = T4) ∧ (T4.doneB (k : Int) = true ∧ T4.done (k : Int) = T5) ∧
    (T5.goB (k : Int) x = false ∧ T5.go (k : Int) x = T5) ∧ (T5.wakeB (k : Int) x = true ∧ T5.wake (k : Int) x = T6) ∧ (T6.n = 10 ∧ T6.S k = 1 ∧ T6.P k = x ∧ T6.O k = -1) ∧ ∀ n : Int, T6.pick n = (k : Int) := by
  have h1 : (fresh 10).wakeB (k : Int) x = true := wakeB_on hk hx (.inl rfl)
  have e1 : (fresh 10).wake (k : Int) x = (fresh 10).set k 1 x (-1) := by rw [wake_on h1, Int.toNat_natCast]
  generalize hT1 : (fresh 10).set k 1 x (-1) = T1 at e1
  have n1 : T1.n = 10 := by rw [← hT1]; rfl
  have s1 : T1.S k = 1 := by rw [← hT1]; exact upd_same _ _ _
  have z1 : ∀ j, j ≠ k → T1.S j = 0 := fun j hj => by rw [← hT1]; exact upd_other _ _ hj
  have b1 : T1.wakeB (k : Int) x = false := wakeB_off (.inr ⟨by omega, by omega⟩)
  have h2 : T1.goB (k : Int) y = true := goB_on (by omega) hy s1
  have e2 : T1.go (k : Int) y = T1.set k 1 y (-1) := by rw [go_on h2, Int.toNat_natCast]
  generalize hT2 : T1.set k 1 y (-1) = T2 at e2
  have n2 : T2.n = 10 := by rw [← hT2]; exact n1
  have s2 : T2.S k = 1 := by rw [← hT2]; exact upd_same _ _ _
  have p2 : T2.P k = y := by rw [← hT2]; exact upd_same _ _ _
  have z2 : ∀ j, j ≠ k → T2.S j = 0 := fun j hj => by rw [← hT2, ← z1 j hj]; exact upd_other _ _ hj
  have h3 : T2.goB (k : Int) o = true := goB_on (by omega) ho s2
  have e3 : T2.block (k : Int) o = T2.set k 2 (T2.P k) o := by rw [block_on h3, Int.toNat_natCast]
  generalize hT3 : T2.set k 2 (T2.P k) o = T3 at e3
  have n3 : T3.n = 10 := by rw [← hT3]; exact n2
  have s3 : T3.S k = 2 := by rw [← hT3]; exact upd_same _ _ _
  have p3 : T3.P k = y := by rw [← hT3, ← p2]; exact upd_same _ _ _
  have o3 : T3.O k = o := by rw [← hT3]; exact upd_same _ _ _
  have z3 : ∀ j, j ≠ k → T3.S j = 0 := fun j hj => by rw [← hT3, ← z2 j hj]; exact upd_other _ _ hj
  have b3 : T3.goB (k : Int) x = false := goB_off (.inr (by omega))
  have c3 : T3.doneB (k : Int) = false := doneB_off (by omega)
  have w3 : which T3 2 (o + 1) = [] := which_nothing fun j hj => by
    by_cases e : j = k
    · right; rw [e]; omega
    · left; rw [z3 j e]; omega
  have f3 : T3.free (o + 1) = T3 := by unfold Sc.free; rw [w3, free1_nil]
  have w4 : which T3 2 o = [k] := which_one (by omega) s3 o3 fun j hj e => .inl (by rw [z3 j e]; omega)
  have f4 : T3.free o = T3.free1 [k] := by unfold Sc.free; rw [w4]
  generalize hT4 : T3.free1 [k] = T4 at f4
  have n4 : T4.n = 10 := by rw [← hT4]; exact n3
  have s4 : T4.S k = 1 := by rw [← hT4]; exact if_pos (by simp)
  have z4 : ∀ j, j ≠ k → T4.S j = 0 := fun j hj => by rw [← hT4, ← z3 j hj]; exact if_neg (by simp [hj])
  have h5 : T4.doneB (k : Int) = true := doneB_on (by omega) s4
  have e5 : T4.done (k : Int) = T4.set k 3 (T4.P k) (-1) := by rw [done_on h5, Int.toNat_natCast]
  generalize hT5 : T4.set k 3 (T4.P k) (-1) = T5 at e5
  have n5 : T5.n = 10 := by rw [← hT5]; exact n4
  have s5 : T5.S k = 3 := by rw [← hT5]; exact upd_same _ _ _
  have z5 : ∀ j, j ≠ k → T5.S j = 0 := fun j hj => by rw [← hT5, ← z4 j hj]; exact upd_other _ _ hj
  have b5 : T5.goB (k : Int) x = false := goB_off (.inr (by omega))
  have h6 : T5.wakeB (k : Int) x = true := wakeB_on (by omega) hx (.inr s5)
  have e6 : T5.wake (k : Int) x = T5.set k 1 x (-1) := by rw [wake_on h6, Int.toNat_natCast]
  generalize hT6 : T5.set k 1 x (-1) = T6 at e6
  have n6 : T6.n = 10 := by rw [← hT6]; exact n5
  have s6 : T6.S k = 1 := by rw [← hT6]; exact upd_same _ _ _
  have p6 : T6.P k = x := by rw [← hT6]; exact upd_same _ _ _
  have o6 : T6.O k = -1 := by rw [← hT6]; exact upd_same _ _ _
  have z6 : ∀ j, j ≠ k → T6.S j = 0 := fun j hj => by rw [← hT6, ← z5 j hj]; exact upd_other _ _ hj
  have r6 : T6.ready = [k] := which_one (by omega) s6 o6 fun j hj e => .inl (by rw [z6 j e]; omega)
  exact ⟨T1, T2, T3, T4, T5, T6, ⟨h1, e1⟩, ⟨b1, wake_off b1⟩, ⟨h2, e2⟩, ⟨h3, e3⟩, ⟨b3, go_off b3⟩, ⟨c3, done_off c3⟩, ⟨n3, s3, p3, o3⟩, ⟨w3, f3⟩, ⟨w4, f4⟩, ⟨h5, e5⟩, ⟨b5, go_off b5⟩, ⟨h6, e6⟩, ⟨n6, s6, p6, o6⟩, pick_one r6⟩
end Go.Proofs.Ytboglnaagigcmaa.SchM
