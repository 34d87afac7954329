/-
  Numbers laid in a slice of the call's own: one behind the other, or a copy (chapter 18).
-/
import Derived.Test.YtomnkdfolonicaaSzRef
import Derived.Test.YtomnkdfolonicaaTold18
namespace Go.Proofs.Ytomnkdfolonicaa.SzL
open Go.ChangeShapes Go.WideShapes Go.ChangeAt Go.RowKit
open Go.Proofs.Ytomnkdfolonicaa.Mem Go.Proofs.Ytomnkdfolonicaa.Blk Go.Proofs.Ytomnkdfolonicaa.Cells Go.Proofs.Ytomnkdfolonicaa.GsC Go.Proofs.Ytomnkdfolonicaa.SzM Go.Proofs.Ytomnkdfolonicaa.SzC Go.Proofs.Ytomnkdfolonicaa.SzN Go.Proofs.Ytomnkdfolonicaa.SzR Go.Proofs.Ytomnkdfolonicaa.Stages

section
variable {w wr : World} {A : Option Addr} {n c j : Nat} {S H : Nat → Int} {x : Int}
/-- The next number behind the first j. -/
theorem gs_push (hgs : Gs wr A j c (row S j)) (hbk : ∀ k, blk A c k → w.heap.size ≤ k) (hgr : Grow w wr) (hj : j ≤ 1000) (hx : S j = x) :
    ∃ A' c' w2, (Builtin.append_ #[22, 22] 22 #[.slice A j c, .slice (some ⟨wr.heap.size, 0, none⟩) 1 1]).run Try.prog (wr.alloc (.cells #[.int .i64 x] 3)) = .ok (.slice A' (j + 1) c') w2 ∧ Gs w2 A' (j + 1) c' (row S (j + 1)) ∧ (∀ k, blk A' c' k → w.heap.size ≤ k) ∧ Grow w w2 := by
  have hga : Grow wr (wr.alloc (.cells #[.int .i64 x] 3)) := (Kept.refl _ wr).alloc _
  obtain ⟨A', c', w2, hr, hg2, hk, hb⟩ := append_gs 22 (hgs.grow hga) (by omega) wr.heap.size x (cell_new1 wr _ _)
  rw [row_succ hx] at hg2
  have hsz := hgr.size
  have hsz2 := hga.size
  exact ⟨A', c', w2, hr, hg2, fun k hk' => by
    rcases hb k hk' with e | e
    · exact hbk k e
    · omega, (hgr.trans hga).then hk fun k hk' e => by have := hbk k e; omega⟩
/-- 'append([]int{}, s...)'. -/
theorem copy_has (h : Has w A n H) (h1 : 1 ≤ n) (hn : n ≤ 1000) (c : Nat) : ∃ A' c' w2, (∀ ty, (Builtin.append_ #[22, 22] ty #[.slice (some ⟨w.heap.size, 0, none⟩) 0 0, .slice A n c]).run Try.prog (w.alloc (.cells #[] 3)) = .ok (.slice A' n c') w2) ∧ Gs w2 A' n c' (row H n) ∧ (∀ k, blk A' c' k → w.heap.size ≤ k) ∧ Grow w w2 := by
  obtain ⟨i, hi, hz, hs, hby⟩ := info_parts infoI
  obtain ⟨b, o, rfl, hc⟩ := h h1
  have hown : (w.alloc (.cells #[] 3)).ownsRow w.heap.size 3 1 (.slice (some ⟨w.heap.size, 0, none⟩) 0 0) 0 [] :=
    ⟨rfl, .inr ⟨_, 0, #[], rfl, Nat.le_refl _, heap_alloc_new w _, Nat.le_refl _, Nat.zero_le _, rfl, rfl⟩⟩
  obtain ⟨v', w', hr, h2, h3, h4, _⟩ := run_append_own_at (P := Try.prog) (w := w.alloc (.cells #[] 3)) w.heap.size 22 0 3 i (.int .i64 0) 1 8 Try.underlying22 hi hz hs hby rfl (by omega) _ 0 [] hown ⟨b, o, none⟩ n c ((row H n).map (Value.int .i64)) (by rw [List.length_map, row_len, Nat.mul_one])
    (fun j u hj => by
      have hjn : j < n := by
        have := (List.getElem?_eq_some_iff.1 hj).1
        rw [List.length_map, row_len] at this
        exact this
      rw [add_off]
      refine Lib.cell?_alloc_some _ ?_
      rw [hc j hjn, ← hj]
      simp [row, hjn])
    (fun u hu => by
      obtain ⟨x, _, rfl⟩ := List.mem_map.1 hu
      rfl) (by unfold maxLen; omega) (by omega) (by simp)
  rw [Nat.zero_add, List.nil_append] at h2
  obtain ⟨A', c', rfl, hgs, hb⟩ := Gs.of_own h2
  exact ⟨A', c', w', fun ty => hr, hgs, hb, ((Kept.refl _ w).alloc _).grown h3 fun k hk hlt => by simp [Value.ownBlock] at hk; omega⟩
/-- One more at place q. -/
def more (H : Nat → Int) (q j : Nat) : Int := if j = q then H j + 1 else H j
theorem more_same (H : Nat → Int) (q : Nat) : more H q q = H q + 1 := if_pos rfl
theorem more_other {q : Nat} (h : j ≠ q) : more H q j = H j := if_neg h
theorem tot_put {H K : Nat → Int} {q : Nat} {d : Int} (hs : K q = H q + d) (ho : ∀ j, j ≠ q → K j = H j) : ∀ n, tot K n = tot H n + if q < n then d else 0
  | 0 => by simp [tot]
  | n + 1 => by
    rw [tot_succ, tot_succ, tot_put hs ho n]
    by_cases e : n = q
    · subst e; rw [if_neg (by omega), if_pos (by omega), hs]; omega
    · rw [ho n e]
      by_cases h : q < n
      · rw [if_pos h, if_pos (by omega)]; omega
      · rw [if_neg h, if_neg (by omega)]; omega
end
end Go.Proofs.Ytomnkdfolonicaa.SzL
