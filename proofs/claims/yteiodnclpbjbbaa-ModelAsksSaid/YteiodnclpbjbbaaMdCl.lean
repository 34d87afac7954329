/-
  A copy that is made by append onto an empty slice.
-/
import Derived.Test.YteiodnclpbjbbaaPmRow
namespace Go.Proofs.Yteiodnclpbjbbaa.MdCl
open Go.ChangeShapes Go.WideShapes Go.ChangeAt Go.RowKit
open Go.Proofs.Yteiodnclpbjbbaa.Mem Go.Proofs.Yteiodnclpbjbbaa.Blk Go.Proofs.Yteiodnclpbjbbaa.Cells Go.Proofs.Yteiodnclpbjbbaa.Orow Go.Proofs.Yteiodnclpbjbbaa.MdM Go.Proofs.Yteiodnclpbjbbaa.PmC
open Go.Proofs.Yteiodnclpbjbbaa.PmR

/-- 'append([]T{}, s...)', s no nil slice. -/
theorem clone_run2 {P : Program} {w : World} {n : Nat} {f : Nat → Value} (T e : TypeId) (z : Value) (bytes : Nat) (hT : P.underlying T = some (.slice e))
    (hinfo : (P.info? e).map (fun i => (i.zero, i.size, i.bytes)) = some (some z, 1, bytes)) (hzs : z.cells.size = 1) (hb : bytes ≤ 1000) (a : Addr) (hc : 0 < n → ∃ b off, a = ⟨b, off, none⟩ ∧ ∀ j, j < n → w.cell? ⟨b, off + j, none⟩ = some (f j)) (h1 : ∀ j, j < n → (f j).oneCell' = true) (c : Nat) (hn : n ≤ 100000) :
    ∃ v' w', (∀ ty, (Builtin.append_ #[T, T] ty #[.slice (some ⟨w.heap.size, 0, none⟩) 0 0, .slice (some a) n c]).run P (w.alloc (.cells #[] e)) = .ok v' w') ∧ OS w' (w.heap.size ≤ ·) v' e 1 n f ∧ v' ≠ .slice none 0 0 ∧ Grow w w' ∧ Kept (fun k => k = w.heap.size) (w.alloc (.cells #[] e)) w' := by
  obtain ⟨i, hi, hz, hs, hby⟩ := info_parts hinfo
  have hown : (w.alloc (.cells #[] e)).ownsRow w.heap.size e 1 (.slice (some ⟨w.heap.size, 0, none⟩) 0 0) 0 [] :=
    ⟨rfl, .inr ⟨_, 0, #[], rfl, Nat.le_refl _, heap_alloc_new w _, Nat.le_refl _, Nat.zero_le _, rfl, rfl⟩⟩
  obtain ⟨v', w', hr, h2, h3, h4, _⟩ := run_append_own_at (P := P) (w := w.alloc (.cells #[] e)) w.heap.size T 0 e i z 1 bytes hT hi hz hs hby hzs (by omega) _ 0 [] hown a n c ((List.range n).map f) (by simp)
    (fun j u hj => by
      have hjn : j < n := by
        have := (List.getElem?_eq_some_iff.1 hj).1
        simpa using this
      obtain ⟨b, off, rfl, hcc⟩ := hc (by omega)
      rw [add_off]
      refine Lib.cell?_alloc_some _ ?_
      rw [hcc j hjn, ← hj]
      simp [hjn])
    (fun u hu => by
      obtain ⟨j, hj, rfl⟩ := List.mem_map.1 hu
      exact h1 j (List.mem_range.1 hj)) (by unfold maxLen; omega) (by
        have : (0 + n) * bytes ≤ 100000 * 1000 := Nat.mul_le_mul (by omega) hb
        omega) (by simp)
  rw [Nat.zero_add, List.nil_append] at h2
  refine ⟨v', w', fun ty => hr, ?_, (fun e0 => by simpa using (h4.1 e0).1), ((Kept.refl _ w).alloc _).grown h3 fun k hk hlt => ?_, (Kept.refl _ _).grown h3 fun k hk hlt => ?_⟩
  · rcases h2.2 with ⟨e0, e1⟩ | ⟨g, cap, cur, e0, hbg, hcur, hle, hmax, hsz, htake⟩
    · exact .inl ⟨e0, e1⟩
    · refine .inr ⟨g, cap, e0, ⟨cur, hcur, hsz, hle, hmax, fun j hj => ?_⟩, hbg⟩
      have hjn : j < n := by omega
      have : (cur.toList.take (n * 1))[j]? = ((List.range n).map f)[j]? := by rw [htake]
      rw [List.getElem?_take, if_pos hj] at this
      simpa [hjn] using this
  · simp [Value.ownBlock] at hk
    omega
  · simp [Value.ownBlock] at hk
    exact hk.symm
end Go.Proofs.Yteiodnclpbjbbaa.MdCl
